/-
  What the document's quoted of layer 11 does, over this seat's program.
-/
import Derived.Test.YtedpimhhbajljaaGreatDoorBnd1
import Derived.Test.YtedpimhhbajljaaGreatDoorRow
import Derived.Laws.AppendOwn
import Derived.OwnWalk
import Derived.Test.YtedpimhhbajljaaGreatDoorMsf
import Derived.Test.YtedpimhhbajljaaGreatDoorByt
set_option linter.unusedVariables false
set_option linter.unusedSimpArgs false
namespace Go.Proofs.YtedpimhhbajljaaGreatDoor
open Go.RowKit Go.Proofs.Hed

theorem oneM_cell (w : World) (v : Value) (t : TypeId) : ∀ j u, [v][j]? = some u → (w.alloc (.cells #[v] t)).cell? (Addr.add ⟨w.heap.size, 0, none⟩ j) = some u := by
  intro j u hj
  match j, hj with
  | 0, hj => simp at hj; subst hj; simp [Addr.add]
theorem qdF_end (acc r : List UInt8) : qdF false acc (34 :: r) = some (acc, r) := by unfold qdF; rw [if_pos ⟨rfl, rfl⟩]
theorem qdF_esc (acc : List UInt8) (d : UInt8) (r : List UInt8) : qdF false acc (92 :: d :: r) = qdF false (acc ++ [d]) r := by
  conv => lhs; unfold qdF
  rw [if_neg (by decide), if_pos ⟨rfl, rfl⟩]
  conv => lhs; unfold qdF
  rw [if_neg (by simp), if_neg (by simp)]
theorem qdF_escE (acc : List UInt8) : qdF false acc [92] = none := by
  unfold qdF
  rw [if_neg (by decide), if_pos ⟨rfl, rfl⟩]
  rfl
theorem qdF_any (acc : List UInt8) (c : UInt8) (r : List UInt8) (h1 : c ≠ 34) (h2 : c ≠ 92) : qdF false acc (c :: r) = qdF false (acc ++ [c]) r := by
  conv => lhs; unfold qdF
  rw [if_neg (fun h => h1 h.1), if_neg (fun h => h2 h.1)]

set_option maxHeartbeats 4000000 in
set_option maxRecDepth 100000 in
theorem refQuoted_any (s : ByteArray) (w : World) (hs : s.size ≤ 4194304) :
    Calls Tryz.prog 44 #[.string s] w fun e w' => e = .returned (qdV (qdF false [] (s.data.toList.drop 1))) ∧ Below w.heap.size w w' := by
  obtain ⟨i0, hi, hz0, hz1, hz2⟩ := info_parts bInfo
  obtain ⟨R, hR⟩ : ∃ R, qdF false [] (s.data.toList.drop 1) = R := ⟨_, rfl⟩
  rw [hR]
  have HR := hide hR
  clear hR
  go_enter Tryz.func44, Tryz.ntmps44
  go_wp2
  go_loopw [5, 6] (fun x z wr => ∃ (k : Nat) (acc : List UInt8), z = .int .i64 (k : Int) ∧ 1 ≤ k ∧ k ≤ s.size + 1 ∧ acc.length ≤ k ∧ Hid (qdF false acc (s.data.toList.drop k) = R) ∧
    wr.ownsRow w.heap.size 5 1 x acc.length (Lib.byteCells acc) ∧ Below w.heap.size w wr) (fun _ z _ => s.size + 1 - (intOf z).toNat)
  case atStart => exact ⟨1, [], rfl, by omega, by omega, by simp, HR, ⟨rfl, Or.inl ⟨rfl, rfl⟩⟩, Below.refl _ _⟩
  case round =>
    obtain ⟨k, acc, rfl, hk1, hk, hacc, HE, hown, hbw⟩ := hrel
    have hbs := hbw.size
    by_cases hlt : k < s.size
    · have hlt' : (k : Int) < (s.size : Int) := by omega
      have hd := drop_byte s k hlt
      have hfin := unhide HE
      rw [hd] at hfin
      by_cases h34 : s[k] = 34
      · have e1 : (s[k].toNat : Int) = 34 := by rw [h34]; rfl
        rw [h34, qdF_end] at hfin
        have hcv := fun q => own_string (w := wr.drewN q) (l := acc) hown
        have hcv0 := own_string (w := wr) (l := acc) hown
        have hk4 : k + 1 ≤ s.size := by omega
        have hw1 : IntKind.i64.wrap ((k : Int) + 1) = (k : Int) + 1 := by rw [IntKind.wrap_i64]; omega
        have hsl := fun W => slice_from s ((k : Int) + 1) (k + 1) (by omega) hk4 W
        have HRR : Hid (qdV R = .tuple #[.string (bts acc), .string (s.extract (k + 1) s.size), .bool true]) := hide (by
          rw [← hfin]
          unfold qdV
          simp only
          rw [← toList_from, bts_toList])
        have HB := hide hbw
        clear hfin hd HE h34 hbw hown
        go_wp2
        go_quiet (fail)
        go_wp2
        go_ret3
        exact ⟨by rw [unhide HRR]; rfl, below_drewN (unhide HB) _⟩
      · have e1 : ¬ (s[k].toNat : Int) = 34 := fun e => h34 (UInt8.toNat_inj.mp (by have : (34 : UInt8).toNat = 34 := rfl; omega))
        by_cases h92 : s[k] = 92
        · have e2 : (s[k].toNat : Int) = 92 := by rw [h92]; rfl
          by_cases hl2 : k + 1 < s.size
          · have e3 : ¬ (k : Int) + 1 = (s.size : Int) := by omega
            have e4 : (k : Int) + 1 < (s.size : Int) := by omega
            have hcc : s[k + 1] = s[k + 1] := rfl
            rw [drop_byte s (k + 1) hl2, h92, qdF_esc] at hfin
            have HF := hide hfin
            clear hfin hd HE h92 h34
            go_wp2_with (at_builtin; refine wpList_append_own _ rfl _ _ 63 rfl w.heap.size 5 i0 (.int .u8 0) 1 1 Tryz.underlying63 hi hz0 hz1 hz2 rfl (by decide) _ _ _ rfl (hown.alloc _) ⟨wr.heap.size, 0, none⟩ 1 1 [.int .u8 (s[k + 1].toNat : Int)] rfl rfl (oneM_cell _ _ _) (by intro u hu; simp at hu; subst hu; rfl) (by unfold maxLen; omega) (by omega) (by simp; omega) ?_)
            intro v' w2 hown' hgrow _
            have hb3 := own_grown hown hgrow hbw (by omega)
            rw [byteCells_snoc acc s[k + 1] _ rfl] at hown'
            go_wp2
            exact ⟨⟨k + 2, acc ++ [s[k + 1]], by go_num, by omega, by omega, by simp; omega, HF, by simpa using hown', hb3⟩, by simp [intOf]; omega⟩
          · have e3 : (k : Int) + 1 = (s.size : Int) := by omega
            have hdn : s.data.toList.drop (k + 1) = [] := List.drop_of_length_le (by rw [sizeL]; omega)
            rw [hdn, h92, qdF_escE] at hfin
            subst hfin
            clear hd HE h92 h34 hdn
            go_wp2
            go_ret3
            exact ⟨rfl, hbw⟩
        · have e2 : ¬ (s[k].toNat : Int) = 92 := fun e => h92 (UInt8.toNat_inj.mp (by have : (92 : UInt8).toNat = 92 := rfl; omega))
          rw [qdF_any _ _ _ h34 h92] at hfin
          have HF := hide hfin
          clear hfin hd HE h92 h34
          go_wp2_with (at_builtin; refine wpList_append_own _ rfl _ _ 63 rfl w.heap.size 5 i0 (.int .u8 0) 1 1 Tryz.underlying63 hi hz0 hz1 hz2 rfl (by decide) _ _ _ rfl (hown.alloc _) ⟨wr.heap.size, 0, none⟩ 1 1 [.int .u8 (s[k].toNat : Int)] rfl rfl (oneM_cell _ _ _) (by intro u hu; simp at hu; subst hu; rfl) (by unfold maxLen; omega) (by omega) (by simp; omega) ?_)
          intro v' w2 hown' hgrow _
          have hb3 := own_grown hown hgrow hbw (by omega)
          rw [byteCells_snoc acc s[k] _ rfl] at hown'
          go_wp2
          exact ⟨⟨k + 1, acc ++ [s[k]], by go_num, by omega, by omega, by simp; omega, HF, by simpa using hown', hb3⟩, by simp [intOf]; omega⟩
    · have hlt' : ¬ (k : Int) < (s.size : Int) := by omega
      have hdn : s.data.toList.drop k = [] := List.drop_of_length_le (by rw [sizeL]; omega)
      have hfin := unhide HE
      rw [hdn] at hfin
      have hfin2 : R = none := by rw [← hfin]; rfl
      subst hfin2
      clear hdn HE hfin
      go_wp2
      go_ret3
      exact ⟨rfl, hbw⟩
end Go.Proofs.YtedpimhhbajljaaGreatDoor

/-
  What the document's param of layer 11 does, over this seat's program.
-/
set_option linter.unusedVariables false
set_option linter.unusedSimpArgs false
namespace Go.Proofs.YtedpimhhbajljaaGreatDoor
open Go.RowKit Go.Proofs.Hed

/-- What is told of a parameter: whatever stands there, if there is none. -/
def ParIs (r : Option ((List UInt8 × List UInt8) × List UInt8)) (f1 f2 t : ByteArray) (ok : Bool) : Prop := match r with
  | none => ok = false
  | some ((n, v), u) => f1 = bts n ∧ f2 = bts v ∧ t = bts u ∧ ok = true
/-- What is told of a value. -/
def ValIs (r : Option (List UInt8 × List UInt8)) (x y : ByteArray) (ok : Bool) : Prop := match r with
  | none => ok = false
  | some (v, u) => x = bts v ∧ y = bts u ∧ ok = true
theorem qdV_form (r : Option (List UInt8 × List UInt8)) : ∃ x y ok, qdV r = .tuple #[.string x, .string y, .bool ok] ∧ ValIs r x y ok ∧ y.size ≤ (match r with | none => 0 | some p => p.2.length) := by
  cases r with
  | none => exact ⟨_, _, _, rfl, rfl, Nat.le_refl _⟩
  | some p => exact ⟨_, _, _, rfl, ⟨rfl, rfl, rfl⟩, by rw [size_bts]; exact Nat.le_refl _⟩
theorem bts_isEmpty (l : List UInt8) : (bts l).toList.isEmpty = decide (l = []) := by
  rw [ByteArray.toList_eq, toList_bts]
  cases l <;> simp
theorem bts_first {l : List UInt8} {c : UInt8} {t : List UInt8} (h : l = c :: t) : ∃ h : 0 < (bts l).size, (bts l)[0] = c := by
  subst h
  exact ⟨by rw [size_bts]; simp, rfl⟩
/-- The three ways of a value. -/
theorem parM_val {l : List UInt8} {n : Nat} {l1 l2 l3 : List UInt8} (h1 : l.dropWhile blM = l1) (hn : tokN l1 = n) (h2 : (l1.drop n).dropWhile blM = l2) (h3 : l2.tail.dropWhile blM = l3) :
    parM l = if n = 0 ∨ l2.head? ≠ some 61 then none else match valM l3 with | none => none | some (v, r) => some ((l1.take n, v), r.dropWhile blM) := by
  subst h1 hn h2 h3
  rfl

set_option maxHeartbeats 8000000 in
set_option maxRecDepth 100000 in
/-- What stands behind the sign, read from there on: the value and what is behind it are as they are told. -/
theorem refParam_any (s : ByteArray) (w : World) (hs : s.size ≤ 4194304) :
    Calls Tryz.prog 19 #[.string s] w fun e w' => ∃ f1 f2 t ok, e = .returned (.tuple #[.agg #[.string f1, .string f2], .string t, .bool ok]) ∧ ParIs (parM s.data.toList) f1 f2 t ok ∧ Below w.heap.size w w' := by
  have hsl := sizeL s
  obtain ⟨l1, h1⟩ : ∃ l1, s.data.toList.dropWhile blM = l1 := ⟨_, rfl⟩
  obtain ⟨n, hn⟩ : ∃ n, tokN l1 = n := ⟨_, rfl⟩
  obtain ⟨l2, h2⟩ : ∃ l2, (l1.drop n).dropWhile blM = l2 := ⟨_, rfl⟩
  obtain ⟨l3, h3⟩ : ∃ l3, l2.tail.dropWhile blM = l3 := ⟨_, rfl⟩
  have HPM := hide (parM_val h1 hn h2 h3)
  have hl1 := dropM_len s.data.toList
  rw [h1] at hl1
  have hz1 : (bts l1).size = l1.length := size_bts _
  have htn := tokN_le l1
  rw [hn] at htn
  have hl2 := dropM_len (l1.drop n)
  rw [h2, List.length_drop] at hl2
  have hz2 : (bts l2).size = l2.length := size_bts _
  have hl3 := dropM_len l2.tail
  rw [h3, List.length_tail] at hl3
  have hz3 : (bts l3).size = l3.length := size_bts _
  have HT1 := hide (fun W => refFront_any s W (by omega))
  rw [h1] at HT1
  have HTK := hide (fun W => refToken_any (bts l1) W (by omega))
  rw [toList_bts, hn] at HTK
  have hr1 : ((bts l1).extract n (bts l1).size).size ≤ l1.length := by rw [ByteArray.size_extract]; omega
  have HT2 := hide (fun W => refFront_any ((bts l1).extract n (bts l1).size) W (by omega))
  rw [toList_from, toList_bts, h2] at HT2
  have hr2 : ((bts l2).extract 1 (bts l2).size).size ≤ l2.length := by rw [ByteArray.size_extract]; omega
  have HT3 := hide (fun W => refFront_any ((bts l2).extract 1 (bts l2).size) W (by omega))
  rw [toList_from, toList_bts, List.drop_one, h3] at HT3
  have hnsz : ((bts l1).extract 0 n).size = n := by rw [size_part _ 0 n (by omega)]; omega
  have hem : ((bts l1).extract 0 n).toList.isEmpty = decide (n = 0) := by rw [empty_size, hnsz]
  have e1 : bts (l1.take n) = (bts l1).extract 0 n := by apply ext_list; rw [toList_bts, toList_upto, toList_bts]
  rw [← e1] at HTK hem
  have HNM := hide (Eq.refl (bts (l1.take n)))
  have hem2 := bts_isEmpty l2
  have hem3 := bts_isEmpty l3
  have hb0 : Below w.heap.size w (w.alloc (Obj.cells #[.string ⟨#[]⟩, .string ⟨#[]⟩] 40)) := (Below.refl _ w).alloc (Nat.le_refl _) _
  have Z := hide (Blk.new w 40 #[.string ⟨#[]⟩, .string ⟨#[]⟩])
  have B := hide hb0
  clear hb0 e1 hnsz h1 hn h2 h3 hr1 hr2
  generalize hnm : bts (l1.take n) = nm at HTK hem
  have HNM := hide hnm
  clear hnm
  generalize (bts l1).extract n (bts l1).size = y1 at HTK HT2
  by_cases h0 : n = 0
  · rw [decide_eq_true h0] at hem
    have HPF : ∀ f1 f2 t : ByteArray, ParIs (parM s.data.toList) f1 f2 t false := fun f1 f2 t => by
      rw [unhide HPM, if_pos (Or.inl h0)]
      exact rfl
    clear HPM HT3 h0
    go_enter Tryz.func19, Tryz.ntmps19
    go_wp2_with fail
    refine (unhide HT1 _).mono ?_
    rintro e wf ⟨rfl, hf⟩
    subst hf
    clear HT1
    go_wp2_with fail
    refine (unhide HTK _).mono ?_
    rintro e w1 ⟨rfl, b1⟩
    have ZN := hide ((unhide Z).below b1)
    have BN := hide (belows' (unhide B) b1)
    clear Z B
    have Z := ZN
    have B := BN
    clear ZN BN
    clear HTK b1
    go_wp2_with fail
    refine (unhide HT2 _).mono ?_
    rintro e wg ⟨rfl, hg⟩
    subst hg
    clear HT2
    have e0 := (unhide Z).cell 0
    have e1 := (unhide Z).cell 1
    simp only [List.getElem?_toArray, List.getElem?_cons_succ, List.getElem?_cons_zero] at e0 e1
    have f0 := (unhide Z).frozen 0
    have f1 := (unhide Z).frozen 1
    have RB := hide (((unhide B).setCell (p := ⟨w.heap.size, 0, none⟩) (Nat.le_refl _) (.string ⟨#[]⟩)).setCell (p := ⟨w.heap.size, 1, none⟩) (Nat.le_refl _) (.string ⟨#[]⟩))
    go_wp2
    (try simp only [Exit.inBlock, Exit.then])
    refine bodyPost_ret (v := .tuple #[.agg #[.string ⟨#[]⟩, .string ⟨#[]⟩], .string ⟨#[]⟩, .bool false]) ?_ rfl ⟨_, _, _, _, rfl, HPF _ _ _, unhide RB⟩
    rw [results_cell_tmp2 rfl]
    go_simp
  rw [decide_eq_false h0] at hem
  cases hc2 : l2 with
  | nil =>
    rw [hc2] at HPM HT2 hem2
    rw [decide_eq_true rfl] at hem2
    have HPF : ∀ f1 f2 t : ByteArray, ParIs (parM s.data.toList) f1 f2 t false := fun f1 f2 t => by
      rw [unhide HPM, if_pos (Or.inr (by simp))]
      exact rfl
    clear HPM HT3 h0
    go_enter Tryz.func19, Tryz.ntmps19
    go_wp2_with fail
    refine (unhide HT1 _).mono ?_
    rintro e wf ⟨rfl, hf⟩
    subst hf
    clear HT1
    go_wp2_with fail
    refine (unhide HTK _).mono ?_
    rintro e w1 ⟨rfl, b1⟩
    have ZN := hide ((unhide Z).below b1)
    have BN := hide (belows' (unhide B) b1)
    clear Z B
    have Z := ZN
    have B := BN
    clear ZN BN
    clear HTK b1
    go_wp2_with fail
    refine (unhide HT2 _).mono ?_
    rintro e wg ⟨rfl, hg⟩
    subst hg
    clear HT2
    have e0 := (unhide Z).cell 0
    have e1 := (unhide Z).cell 1
    simp only [List.getElem?_toArray, List.getElem?_cons_succ, List.getElem?_cons_zero] at e0 e1
    have f0 := (unhide Z).frozen 0
    have f1 := (unhide Z).frozen 1
    have RB := hide (((unhide B).setCell (p := ⟨w.heap.size, 0, none⟩) (Nat.le_refl _) (.string ⟨#[]⟩)).setCell (p := ⟨w.heap.size, 1, none⟩) (Nat.le_refl _) (.string ⟨#[]⟩))
    go_wp2
    (try simp only [Exit.inBlock, Exit.then])
    refine bodyPost_ret (v := .tuple #[.agg #[.string ⟨#[]⟩, .string ⟨#[]⟩], .string ⟨#[]⟩, .bool false]) ?_ rfl ⟨_, _, _, _, rfl, HPF _ _ _, unhide RB⟩
    rw [results_cell_tmp2 rfl]
    go_simp
  | cons c t =>
    have hd2 : decide (l2 = []) = false := decide_eq_false (by rw [hc2]; simp)
    rw [hd2] at hem2
    have hb2 := bts_first hc2
    obtain ⟨hp2, hp3⟩ := hb2
    have hp2' : (0 : Int) < ((bts l2).size : Int) := by omega
    have hp2'' : (1 : Int) ≤ ((bts l2).size : Int) := by omega
    have hhd : l2.head? = some c := by rw [hc2]; rfl
    clear hc2 hd2
    generalize bts l2 = L2 at HT2 hem2 hp2 hp3 hp2' hp2'' HT3 hz2
    by_cases hc : c = 61
    · have hpb : (L2[0].toNat : Int) = 61 := by rw [hp3, hc]; rfl
      have hpb2 : ((L2[0].toNat : Int) != 61) = false := by rw [hpb]; rfl
      have HPN : Hid (parM s.data.toList = match valM l3 with | none => none | some (v, r) => some ((l1.take n, v), r.dropWhile blM)) := hide (by
        rw [unhide HPM, if_neg]
        rintro (h | h)
        · exact h0 h
        · exact h (by rw [hhd, hc]))
      clear HPM hhd hc h0 hp3
      generalize hL3 : bts l3 = L3 at HT3 hem3 hz3
      have HL3 := hide hL3
      clear hL3
      by_cases hq : l3.head? = some 34
      · have hv : valM l3 = qdF false [] l3.tail := by unfold valM; rw [if_pos hq]
        obtain ⟨t3, ht3⟩ : ∃ t3, l3 = 34 :: t3 := by
          cases l3 with
          | nil => simp at hq
          | cons c t => simp only [List.head?_cons, Option.some.injEq] at hq; exact ⟨t, by rw [hq]⟩
        have hne : decide (l3 = []) = false := decide_eq_false (by rw [ht3]; simp)
        rw [hne] at hem3
        obtain ⟨hp4, hp5⟩ := bts_first ht3
        rw [unhide HL3] at hp4
        have hp5b : (L3[0].toNat : Int) = 34 := by
          have hp6 : ∀ (X : ByteArray) (h : 0 < X.size), bts l3 = X → X[0] = (34 : UInt8) := fun X h e => by subst e; exact hp5
          rw [hp6 L3 hp4 (unhide HL3)]; rfl
        have hp4' : (0 : Int) < (L3.size : Int) := by omega
        have HQ := hide (fun W => refQuoted_any L3 W (by omega))
        have hLt : L3.data.toList.drop 1 = l3.tail := by rw [← unhide HL3, toList_bts, List.drop_one]
        rw [hLt, ← hv] at HQ
        obtain ⟨x, y, ok, hqv, hvi, hys⟩ := qdV_form (valM l3)
        rw [hqv] at HQ
        have hyz : y.size ≤ 281474976710656 := by
          rw [hv] at hys
          cases hqq : qdF false [] l3.tail with
          | none => rw [hqq] at hys; simp only at hys; omega
          | some p =>
            rw [hqq] at hys
            have := qdF_len l3.tail false [] p.1 p.2 hqq
            simp only [List.length_nil, List.length_tail] at this hys
            omega
        have HFY := hide (fun W => refFront_any y W hyz)
        have HPF : Hid (ParIs (parM s.data.toList) nm x (bts (y.data.toList.dropWhile blM)) ok) := hide (by
          rw [unhide HPN]
          cases hvv : valM l3 with
          | none => rw [hvv] at hvi; exact hvi
          | some p =>
            rw [hvv] at hvi
            obtain ⟨v, r⟩ := p
            obtain ⟨rfl, rfl, rfl⟩ := hvi
            exact ⟨(unhide HNM).symm, rfl, by rw [toList_bts], rfl⟩)
        generalize bts (y.data.toList.dropWhile blM) = D at HFY HPF
        have k2 : L2.size ≤ 4194304 := by omega
        have k3 : L3.size ≤ 4194304 := by omega
        have k1 : (bts l1).size ≤ 4194304 := by omega
        clear HPN hv ht3 hne hp5 hLt hqv hvi hys hq HL3 hz1 hz2 hz3 hsl hl1 hl2 hl3 htn hyz
        go_enter Tryz.func19, Tryz.ntmps19
        go_wp2_with fail
        refine (unhide HT1 _).mono ?_
        rintro e wf ⟨rfl, hf⟩
        subst hf
        clear HT1
        go_wp2_with fail
        refine (unhide HTK _).mono ?_
        rintro e w1 ⟨rfl, b1⟩
        have ZN := hide ((unhide Z).below b1)
        have BN := hide (belows' (unhide B) b1)
        clear Z B
        have Z := ZN
        have B := BN
        clear ZN BN
        clear HTK b1
        go_wp2_with fail
        refine (unhide HT2 _).mono ?_
        rintro e wg ⟨rfl, hg⟩
        subst hg
        clear HT2
        go_wp2_with fail
        refine (unhide HT3 _).mono ?_
        rintro e wh ⟨rfl, hh⟩
        subst hh
        clear HT3
        go_wp2_with fail
        refine (unhide HQ _).mono ?_
        rintro e w3 ⟨rfl, b3⟩
        have ZN := hide ((unhide Z).below b3)
        have BN := hide (belows' (unhide B) b3)
        clear Z B
        have Z := ZN
        have B := BN
        clear ZN BN
        clear HQ b3
        go_wp2_with fail
        refine (unhide HFY _).mono ?_
        rintro e wk ⟨rfl, hk⟩
        subst hk
        clear HFY
        have e0 := (unhide Z).cell 0
        have e1 := (unhide Z).cell 1
        simp only [List.getElem?_toArray, List.getElem?_cons_succ, List.getElem?_cons_zero] at e0 e1
        have f0 := (unhide Z).frozen 0
        have f1 := (unhide Z).frozen 1
        have RB := hide (((unhide B).setCell (p := ⟨w.heap.size, 0, none⟩) (Nat.le_refl _) (.string nm)).setCell (p := ⟨w.heap.size, 1, none⟩) (Nat.le_refl _) (.string x))
        go_wp2
        (try simp only [Exit.inBlock, Exit.then])
        refine bodyPost_ret (v := .tuple #[.agg #[.string nm, .string x], .string D, .bool ok]) ?_ rfl ⟨_, _, _, _, rfl, unhide HPF, unhide RB⟩
        rw [results_cell_tmp2 rfl]
        go_simp
      · cases hc3 : l3 with
        | nil =>
          have hne : decide (l3 = []) = true := decide_eq_true hc3
          rw [hne] at hem3
          have HQ := hide (fun W => refToken_any L3 W (by omega))
          have hLt : L3.data.toList = l3 := by rw [← unhide HL3, toList_bts]
          rw [hLt] at HQ
          have hm := tokN_le l3
          obtain ⟨m, hmm⟩ : ∃ m, tokN l3 = m := ⟨_, rfl⟩
          rw [hmm] at HQ hm
          have hxs : (L3.extract 0 m).size = m := by rw [size_part _ 0 m (by omega)]; omega
          have hxe : (L3.extract 0 m).toList.isEmpty = decide (m = 0) := by rw [empty_size, hxs]
          have hyz : (L3.extract m L3.size).size ≤ 281474976710656 := by rw [ByteArray.size_extract]; omega
          have HFY := hide (fun W => refFront_any (L3.extract m L3.size) W hyz)
          have HPF : Hid (ParIs (parM s.data.toList) nm (L3.extract 0 m) (bts ((L3.extract m L3.size).data.toList.dropWhile blM)) (!decide (m = 0))) := hide (by
            rw [unhide HPN]
            unfold valM
            rw [if_neg hq, hmm]
            by_cases h0 : m = 0
            · rw [if_pos h0, decide_eq_true h0]
              exact rfl
            · rw [if_neg h0, decide_eq_false h0]
              refine ⟨(unhide HNM).symm, ?_, ?_, rfl⟩
              · apply ext_list; rw [toList_upto, toList_bts, hLt]
              · rw [toList_from, hLt])
          generalize bts ((L3.extract m L3.size).data.toList.dropWhile blM) = D at HFY HPF
          generalize L3.extract m L3.size = y at HQ HFY
          generalize L3.extract 0 m = x at HQ hxe HPF
          generalize decide (m = 0) = bm at hxe HPF
          have k2 : L2.size ≤ 4194304 := by omega
          have k3 : L3.size ≤ 4194304 := by omega
          have k1 : (bts l1).size ≤ 4194304 := by omega
          clear HPN hne hLt hq HL3 hc3 hmm hm hxs hyz hz1 hz2 hz3 hsl hl1 hl2 hl3 htn
          go_enter Tryz.func19, Tryz.ntmps19
          go_wp2_with fail
          refine (unhide HT1 _).mono ?_
          rintro e wf ⟨rfl, hf⟩
          subst hf
          clear HT1
          go_wp2_with fail
          refine (unhide HTK _).mono ?_
          rintro e w1 ⟨rfl, b1⟩
          have ZN := hide ((unhide Z).below b1)
          have BN := hide (belows' (unhide B) b1)
          clear Z B
          have Z := ZN
          have B := BN
          clear ZN BN
          clear HTK b1
          go_wp2_with fail
          refine (unhide HT2 _).mono ?_
          rintro e wg ⟨rfl, hg⟩
          subst hg
          clear HT2
          go_wp2_with fail
          refine (unhide HT3 _).mono ?_
          rintro e wh ⟨rfl, hh⟩
          subst hh
          clear HT3
          go_wp2_with fail
          refine (unhide HQ _).mono ?_
          rintro e w3 ⟨rfl, b3⟩
          have ZN := hide ((unhide Z).below b3)
          have BN := hide (belows' (unhide B) b3)
          clear Z B
          have Z := ZN
          have B := BN
          clear ZN BN
          clear HQ b3
          cases bm
          all_goals
            go_wp2_with fail
            refine (unhide HFY _).mono ?_
            rintro e wk ⟨rfl, hk⟩
            subst hk
            clear HFY
            have e0 := (unhide Z).cell 0
            have e1 := (unhide Z).cell 1
            simp only [List.getElem?_toArray, List.getElem?_cons_succ, List.getElem?_cons_zero] at e0 e1
            have f0 := (unhide Z).frozen 0
            have f1 := (unhide Z).frozen 1
            have RB := hide (((unhide B).setCell (p := ⟨w.heap.size, 0, none⟩) (Nat.le_refl _) (.string nm)).setCell (p := ⟨w.heap.size, 1, none⟩) (Nat.le_refl _) (.string x))
            go_wp2
            (try simp only [Exit.inBlock, Exit.then])
            refine bodyPost_ret (v := .tuple #[.agg #[.string nm, .string x], .string D, .bool _]) ?_ rfl ⟨_, _, _, _, rfl, unhide HPF, unhide RB⟩
            rw [results_cell_tmp2 rfl]
            go_simp
        | cons c3 t3 =>
          have hne : decide (l3 = []) = false := decide_eq_false (by rw [hc3]; simp)
          rw [hne] at hem3
          obtain ⟨hp4, hp5⟩ := bts_first hc3
          rw [unhide HL3] at hp4
          have hp5b : ¬ (L3[0].toNat : Int) = 34 := by
            have hp6 : ∀ (X : ByteArray) (h : 0 < X.size), bts l3 = X → X[0] = c3 := fun X h e => by subst e; exact hp5
            rw [hp6 L3 hp4 (unhide HL3)]
            intro e
            apply hq
            rw [hc3, List.head?_cons, show c3 = 34 from UInt8.toNat_inj.mp (by have : (34 : UInt8).toNat = 34 := rfl; omega)]
          have hp4' : (0 : Int) < (L3.size : Int) := by omega
          have HQ := hide (fun W => refToken_any L3 W (by omega))
          have hLt : L3.data.toList = l3 := by rw [← unhide HL3, toList_bts]
          rw [hLt] at HQ
          have hm := tokN_le l3
          obtain ⟨m, hmm⟩ : ∃ m, tokN l3 = m := ⟨_, rfl⟩
          rw [hmm] at HQ hm
          have hxs : (L3.extract 0 m).size = m := by rw [size_part _ 0 m (by omega)]; omega
          have hxe : (L3.extract 0 m).toList.isEmpty = decide (m = 0) := by rw [empty_size, hxs]
          have hyz : (L3.extract m L3.size).size ≤ 281474976710656 := by rw [ByteArray.size_extract]; omega
          have HFY := hide (fun W => refFront_any (L3.extract m L3.size) W hyz)
          have HPF : Hid (ParIs (parM s.data.toList) nm (L3.extract 0 m) (bts ((L3.extract m L3.size).data.toList.dropWhile blM)) (!decide (m = 0))) := hide (by
            rw [unhide HPN]
            unfold valM
            rw [if_neg hq, hmm]
            by_cases h0 : m = 0
            · rw [if_pos h0, decide_eq_true h0]
              exact rfl
            · rw [if_neg h0, decide_eq_false h0]
              refine ⟨(unhide HNM).symm, ?_, ?_, rfl⟩
              · apply ext_list; rw [toList_upto, toList_bts, hLt]
              · rw [toList_from, hLt])
          generalize bts ((L3.extract m L3.size).data.toList.dropWhile blM) = D at HFY HPF
          generalize L3.extract m L3.size = y at HQ HFY
          generalize L3.extract 0 m = x at HQ hxe HPF
          generalize decide (m = 0) = bm at hxe HPF
          have k2 : L2.size ≤ 4194304 := by omega
          have k3 : L3.size ≤ 4194304 := by omega
          have k1 : (bts l1).size ≤ 4194304 := by omega
          clear HPN hne hLt hq HL3 hc3 hmm hm hxs hyz hp5 hz1 hz2 hz3 hsl hl1 hl2 hl3 htn
          go_enter Tryz.func19, Tryz.ntmps19
          go_wp2_with fail
          refine (unhide HT1 _).mono ?_
          rintro e wf ⟨rfl, hf⟩
          subst hf
          clear HT1
          go_wp2_with fail
          refine (unhide HTK _).mono ?_
          rintro e w1 ⟨rfl, b1⟩
          have ZN := hide ((unhide Z).below b1)
          have BN := hide (belows' (unhide B) b1)
          clear Z B
          have Z := ZN
          have B := BN
          clear ZN BN
          clear HTK b1
          go_wp2_with fail
          refine (unhide HT2 _).mono ?_
          rintro e wg ⟨rfl, hg⟩
          subst hg
          clear HT2
          go_wp2_with fail
          refine (unhide HT3 _).mono ?_
          rintro e wh ⟨rfl, hh⟩
          subst hh
          clear HT3
          go_wp2_with fail
          refine (unhide HQ _).mono ?_
          rintro e w3 ⟨rfl, b3⟩
          have ZN := hide ((unhide Z).below b3)
          have BN := hide (belows' (unhide B) b3)
          clear Z B
          have Z := ZN
          have B := BN
          clear ZN BN
          clear HQ b3
          cases bm
          all_goals
            go_wp2_with fail
            refine (unhide HFY _).mono ?_
            rintro e wk ⟨rfl, hk⟩
            subst hk
            clear HFY
            have e0 := (unhide Z).cell 0
            have e1 := (unhide Z).cell 1
            simp only [List.getElem?_toArray, List.getElem?_cons_succ, List.getElem?_cons_zero] at e0 e1
            have f0 := (unhide Z).frozen 0
            have f1 := (unhide Z).frozen 1
            have RB := hide (((unhide B).setCell (p := ⟨w.heap.size, 0, none⟩) (Nat.le_refl _) (.string nm)).setCell (p := ⟨w.heap.size, 1, none⟩) (Nat.le_refl _) (.string x))
            go_wp2
            (try simp only [Exit.inBlock, Exit.then])
            refine bodyPost_ret (v := .tuple #[.agg #[.string nm, .string x], .string D, .bool _]) ?_ rfl ⟨_, _, _, _, rfl, unhide HPF, unhide RB⟩
            rw [results_cell_tmp2 rfl]
            go_simp
    · have hpb : ¬ (L2[0].toNat : Int) = 61 := fun e => hc (by rw [← hp3]; exact UInt8.toNat_inj.mp (by have : (61 : UInt8).toNat = 61 := rfl; omega))
      have hpb2 : ((L2[0].toNat : Int) != 61) = true := by simpa using hpb
      have HPF : ∀ f1 f2 t : ByteArray, ParIs (parM s.data.toList) f1 f2 t false := fun f1 f2 t => by
        rw [unhide HPM, if_pos (Or.inr (by rw [hhd]; intro e; injection e with e; exact hc e))]
        exact rfl
      clear HPM HT3 h0 hp3 hhd hc
      go_enter Tryz.func19, Tryz.ntmps19
      go_wp2_with fail
      refine (unhide HT1 _).mono ?_
      rintro e wf ⟨rfl, hf⟩
      subst hf
      clear HT1
      go_wp2_with fail
      refine (unhide HTK _).mono ?_
      rintro e w1 ⟨rfl, b1⟩
      have ZN := hide ((unhide Z).below b1)
      have BN := hide (belows' (unhide B) b1)
      clear Z B
      have Z := ZN
      have B := BN
      clear ZN BN
      clear HTK b1
      go_wp2_with fail
      refine (unhide HT2 _).mono ?_
      rintro e wg ⟨rfl, hg⟩
      subst hg
      clear HT2
      have e0 := (unhide Z).cell 0
      have e1 := (unhide Z).cell 1
      simp only [List.getElem?_toArray, List.getElem?_cons_succ, List.getElem?_cons_zero] at e0 e1
      have f0 := (unhide Z).frozen 0
      have f1 := (unhide Z).frozen 1
      have RB := hide (((unhide B).setCell (p := ⟨w.heap.size, 0, none⟩) (Nat.le_refl _) (.string ⟨#[]⟩)).setCell (p := ⟨w.heap.size, 1, none⟩) (Nat.le_refl _) (.string ⟨#[]⟩))
      go_wp2
      (try simp only [Exit.inBlock, Exit.then])
      refine bodyPost_ret (v := .tuple #[.agg #[.string ⟨#[]⟩, .string ⟨#[]⟩], .string ⟨#[]⟩, .bool false]) ?_ rfl ⟨_, _, _, _, rfl, HPF _ _ _, unhide RB⟩
      rw [results_cell_tmp2 rfl]
      go_simp
end Go.Proofs.YtedpimhhbajljaaGreatDoor

/-
  What the document's small of layer 11 does, over this seat's program.
-/
set_option linter.unusedVariables false
namespace Go.Proofs.YtedpimhhbajljaaGreatDoor
open Go.RowKit Go.Proofs.Hed

set_option maxHeartbeats 1000000 in
set_option maxRecDepth 100000 in
theorem refSmallM_l (L : List UInt8) (w : World) (hs : L.length ≤ 1099511627776) :
    Calls Tryz.prog 16 #[.string (bts L)] w fun e w' => e = .returned (.string (bts (L.map smB))) ∧ Below w.heap.size w w' := by
  have hsb := size_bts L
  have kc := fun (w : World) => run_bytes_of_string (P := Tryz.prog) w 9 63 5 (bts L) Tryz.underlying9 Tryz.underlying63 Tryz.underlying5
  rw [hsb] at kc
  go_enter Tryz.func16, Tryz.ntmps16
  go_upto_region 2 with (fail)
  have HB := hide (bytes_new w L (grownCap w L.length 0 5))
  have bN : Below w.heap.size w (w.alloc (.cells (bytesRow (bts L) (grownCap w L.length 0 5)) 5 ((bytesRow (bts L) (grownCap w L.length 0 5)).size, (bytesRow (bts L) (grownCap w L.length 0 5)).size + 1))).drew := ((Below.refl _ w).alloc (Nat.le_refl _) _).drew
  obtain ⟨W, hW⟩ : ∃ W, W = (w.alloc (.cells (bytesRow (bts L) (grownCap w L.length 0 5)) 5 ((bytesRow (bts L) (grownCap w L.length 0 5)).size, (bytesRow (bts L) (grownCap w L.length 0 5)).size + 1))).drew := ⟨_, rfl⟩
  rw [← hW] at HB bN ⊢
  clear hW kc
  generalize grownCap w L.length 0 5 = cap
  obtain ⟨B, hB⟩ : ∃ B, B = w.heap.size := ⟨_, rfl⟩
  rw [← hB] at HB bN ⊢
  have HBE := hide hB
  clear hB hsb
  go_wp2
  go_loopw [4, 5, 10] (fun x y z wr => ∃ k : Nat, z = .int .i64 k ∧ k ≤ L.length ∧ Bytes wr B (greF smB k L) ∧ Below B w wr) (fun _ _ z _ => L.length - (intOf z).toNat)
  case atStart => exact ⟨0, rfl, Nat.zero_le _, by simpa [greF] using unhide HB, bN⟩
  case round =>
    obtain ⟨k, rfl, hk, hby, hbw⟩ := hrel
    by_cases hlt : k < L.length
    · have hcc := hby.cell k (by rw [greF_len]; exact hlt)
      rw [greF_at smB k L hlt] at hcc
      have hfz := hby.free k (by rw [greF_len]; exact hlt)
      have hlt' : (k : Int) < (L.length : Int) := by omega
      have hc := L[k].toNat_lt
      by_cases h12 : 65 ≤ L[k].toNat ∧ L[k].toNat ≤ 90
      · have hup : ((L[k].toNat : Int) + 32) = ((smB L[k]).toNat : Int) := by
          unfold smB
          rw [if_pos h12]
          simp; omega
        have hn := hby.set k (by rw [greF_len]; exact hlt) (smB L[k])
        rw [← greF_next smB k L hlt, ← hup] at hn
        have HN := hide hn
        have HB2 := hide (hbw.setCell (p := ⟨B, k, none⟩) (Nat.le_refl _) (.int .u8 ((L[k].toNat : Int) + 32)))
        have h1 := h12.1
        have h2 := h12.2
        clear hn hup h12 hby hbw
        generalize L[k].toNat = c at hcc HN HB2 h1 h2 hc
        go_wp2
        exact ⟨⟨k + 1, by go_num, by omega, unhide HN, unhide HB2⟩, by simp [intOf]; omega⟩
      · have hup : smB L[k] = L[k] := by unfold smB; rw [if_neg h12]
        have HN := hide (show Bytes wr B (greF smB (k + 1) L) by rw [greF_same smB k L hlt hup]; exact hby)
        have HB2 := hide hbw
        clear hup hby hbw
        generalize L[k].toNat = c at hcc h12 hc
        by_cases h1 : 65 ≤ c
        · have h2 : ¬ c ≤ 90 := fun x => h12 ⟨h1, x⟩
          clear h12
          go_wp2
          exact ⟨⟨k + 1, by go_num, by omega, unhide HN, unhide HB2⟩, by simp [intOf]; omega⟩
        · clear h12
          go_wp2
          exact ⟨⟨k + 1, by go_num, by omega, unhide HN, unhide HB2⟩, by simp [intOf]; omega⟩
    · have hlt' : ¬ (k : Int) < (L.length : Int) := by omega
      rw [greF_all smB L k (by omega)] at hby
      have hcs : ∀ j (hj : j < (L.map smB).length), wr.cell? (Addr.add ⟨B, 0, none⟩ j) = some (.int .u8 ((L.map smB)[j].toNat : Int)) := by
        intro j hj
        have hadd : Addr.add ⟨B, 0, none⟩ j = ⟨B, j, none⟩ := by simp only [Addr.add, Nat.zero_add]; split <;> simp_all
        rw [hadd]
        exact hby.cell j hj
      have hcv := run_convert_bytes_back (P := Tryz.prog) wr 63 9 5 ⟨B, 0, none⟩ cap (L.map smB) Tryz.underlying63 Tryz.underlying5 Tryz.underlying9 hcs
      rw [List.length_map, show ({ data := (L.map smB).toArray } : ByteArray) = bts (L.map smB) from rfl] at hcv
      have HB2 := hide hbw
      clear hcs hby hbw
      obtain ⟨x, hx⟩ : ∃ x, x = bts (L.map smB) := ⟨_, rfl⟩
      rw [← hx] at hcv
      have HX := hide hx
      clear hx
      go_wp2
      go_ret
      exact ⟨by rw [← unhide HX]; rfl, by rw [← unhide HBE]; exact unhide HB2⟩

theorem refSmallM_any (s : ByteArray) (w : World) (hs : s.size ≤ 1099511627776) :
    Calls Tryz.prog 16 #[.string s] w fun e w' => e = .returned (.string (bts (s.data.toList.map smB))) ∧ Below w.heap.size w w' := by
  have h := refSmallM_l s.data.toList w (by rw [sizeL]; exact hs)
  rw [bts_toList] at h
  exact h
end Go.Proofs.YtedpimhhbajljaaGreatDoor

/-
  What the document's Type of layer 11 does, over this seat's program.
-/
set_option linter.unusedVariables false
set_option linter.unusedSimpArgs false
namespace Go.Proofs.YtedpimhhbajljaaGreatDoor
open Go.RowKit Go.Proofs.Hed

theorem cut_none (k : UInt8) : ∀ l : List UInt8, (∀ c ∈ l, c ≠ k) → cutAt k l = none
  | [], _ => rfl
  | c :: r, h => by
    unfold cutAt
    rw [if_neg (h c (by simp)), cut_none k r (fun d hd => h d (by simp [hd]))]
    rfl
theorem cut_here (k : UInt8) : ∀ a b : List UInt8, (∀ c ∈ a, c ≠ k) → cutAt k (a ++ k :: b) = some (a, b)
  | [], b, _ => by show cutAt k (k :: b) = _; unfold cutAt; rw [if_pos rfl]
  | c :: a, b, h => by
    show cutAt k (c :: (a ++ k :: b)) = _
    unfold cutAt
    rw [if_neg (h c (by simp)), cut_here k a b (fun d hd => h d (by simp [hd]))]
    rfl
theorem kb_break {s : ByteArray} {k : Nat} (hk : k < s.size) (h : ∀ j (hj : j < s.size), j < k → s[j] ≠ 59) (hc : s[k] = 59) : kndL s.data.toList = s.data.toList.take k ∧ behL s.data.toList = s.data.toList.drop k := by
  have e : s.data.toList = s.data.toList.take k ++ 59 :: s.data.toList.drop (k + 1) := by
    conv => lhs; rw [← List.take_append_drop k s.data.toList, drop_byte s k hk, hc]
  have hn : kndL s.data.toList = s.data.toList.take k := by
    unfold kndL
    have h2 : cutAt 59 s.data.toList = some (s.data.toList.take k, s.data.toList.drop (k + 1)) := by
      conv => lhs; rw [e]
      refine cut_here 59 _ _ (fun c hm => ?_)
      obtain ⟨j, hj, rfl⟩ := List.getElem_of_mem hm
      rw [List.length_take, sizeL] at hj
      rw [List.getElem_take]
      exact h j (by omega) (by omega)
    rw [h2]
  refine ⟨hn, ?_⟩
  unfold behL
  rw [hn, List.length_take, sizeL, Nat.min_eq_left (by omega)]
theorem kb_none {s : ByteArray} (h : ∀ j (hj : j < s.size), s[j] ≠ 59) : kndL s.data.toList = s.data.toList ∧ behL s.data.toList = [] := by
  have hn : kndL s.data.toList = s.data.toList := by
    unfold kndL
    rw [cut_none 59 _ (fun c hm => by
      obtain ⟨j, hj, rfl⟩ := List.getElem_of_mem hm
      rw [sizeL] at hj
      exact h j hj)]
  refine ⟨hn, ?_⟩
  unfold behL
  rw [hn, List.drop_length]
theorem tokN_app : ∀ (x y : List UInt8) (c : UInt8), tokN x = x.length → tokB c = false → tokN (x ++ c :: y) = x.length
  | [], y, c, _, hc => by show tokN (c :: y) = 0; unfold tokN; rw [if_neg (by simp [hc])]
  | d :: x, y, c, h, hc => by
    unfold tokN at h
    split at h
    · rename_i hd
      show tokN (d :: (x ++ c :: y)) = _
      unfold tokN
      rw [if_pos hd, tokN_app x y c (by simpa using h) hc]
      rfl
    · simp at h
theorem tokN_take : ∀ (l : List UInt8), tokN (l.take (tokN l)) = tokN l
  | [] => rfl
  | c :: r => by
    have hc : ∀ t, tokN (c :: t) = if tokB c = true then tokN t + 1 else 0 := fun _ => rfl
    by_cases h : tokB c = true
    · rw [hc r, if_pos h, List.take_succ_cons, hc, if_pos h, tokN_take r]
    · rw [hc r, if_neg h]
      rfl
theorem tok_mem : ∀ (l : List UInt8) (c : UInt8), c ∈ l.take (tokN l) → tokB c = true
  | [], c, h => by simp at h
  | d :: r, c, h => by
    unfold tokN at h
    split at h
    · rename_i hd
      rw [List.take_succ_cons] at h
      rcases List.mem_cons.1 h with rfl | h
      · exact hd
      · exact tok_mem r c h
    · simp at h
theorem typ_split {K : List UInt8} (h : isTypL K = true) : tokN K ≠ 0 ∧ ∃ y, K.drop (tokN K) = 47 :: y ∧ isTokL y = true := by
  unfold isTypL at h
  have hi := index_cut 47 K
  cases hc : cutAt 47 K with
  | none => rw [hc] at h; cases h
  | some p =>
    obtain ⟨x, y⟩ := p
    rw [hc] at h hi
    simp only [Bool.and_eq_true] at h hi
    obtain ⟨h1, h2⟩ := h
    obtain ⟨_, hK⟩ := hi
    have hx := h1
    unfold isTokL at hx
    simp only [Bool.and_eq_true, decide_eq_true_eq] at hx
    have ht : tokN K = x.length := by rw [hK]; exact tokN_app x y 47 hx.2 (by decide)
    refine ⟨?_, y, ?_, h2⟩
    · rw [ht]
      intro e
      have := hx.1
      rw [List.eq_nil_of_length_eq_zero e] at this
      cases this
    · rw [ht, hK, List.drop_left]
theorem typ_join {K y : List UInt8} (h0 : tokN K ≠ 0) (h1 : K.drop (tokN K) = 47 :: y) : isTypL K = isTokL y := by
  have hle := tokN_le K
  have e : K = K.take (tokN K) ++ 47 :: y := by rw [← h1, List.take_append_drop]
  have hc : cutAt 47 K = some (K.take (tokN K), y) := by
    conv => lhs; rw [e]
    refine cut_here 47 _ _ (fun c hm e2 => ?_)
    have := tok_mem K c hm
    rw [e2] at this
    exact absurd this (by decide)
  unfold isTypL
  rw [hc]
  simp only
  have ht : isTokL (K.take (tokN K)) = true := by
    unfold isTokL
    simp only [Bool.and_eq_true, decide_eq_true_eq]
    refine ⟨?_, ?_⟩
    · cases hq : K.take (tokN K) with
      | nil =>
        have := congrArg List.length hq
        rw [List.length_take] at this
        simp only [List.length_nil] at this
        omega
      | cons c r => rfl
    · rw [tokN_take, List.length_take]
      omega
  rw [ht, Bool.true_and]
theorem tokB_small (c : UInt8) : tokB (smB c) = tokB c := by
  have key : ∀ n : Fin 256, tokB (smB (UInt8.ofNat n.val)) = tokB (UInt8.ofNat n.val) := by decide +kernel
  simpa using key ⟨c.toNat, c.toNat_lt⟩
theorem slash_small (c : UInt8) : smB c = 47 ↔ c = 47 := by
  have key : ∀ n : Fin 256, smB (UInt8.ofNat n.val) = 47 ↔ UInt8.ofNat n.val = 47 := by decide +kernel
  simpa using key ⟨c.toNat, c.toNat_lt⟩
theorem tokN_small : ∀ l : List UInt8, tokN (l.map smB) = tokN l
  | [] => rfl
  | c :: r => by
    rw [List.map_cons]
    unfold tokN
    rw [tokB_small, tokN_small r]
theorem isTokL_small (l : List UInt8) : isTokL (l.map smB) = isTokL l := by
  unfold isTokL
  rw [tokN_small, List.length_map]
  cases l <;> rfl
theorem isTypL_small (K : List UInt8) : isTypL (K.map smB) = isTypL K := by
  rw [Bool.eq_iff_iff]
  constructor
  · intro h
    obtain ⟨h0, y, h1, h2⟩ := typ_split h
    rw [tokN_small] at h0 h1
    rw [← List.map_drop] at h1
    cases hd : K.drop (tokN K) with
    | nil => rw [hd] at h1; cases h1
    | cons c r =>
      rw [hd, List.map_cons] at h1
      injection h1 with h3 h4
      rw [slash_small] at h3
      subst h3
      rw [typ_join h0 hd, ← isTokL_small, h4]
      exact h2
  · intro h
    obtain ⟨h0, y, h1, h2⟩ := typ_split h
    rw [typ_join (K := K.map smB) (y := y.map smB) (by rw [tokN_small]; exact h0) (by rw [tokN_small, ← List.map_drop, h1, List.map_cons]; rfl), isTokL_small]
    exact h2
theorem isTokL_iff (y : List UInt8) : isTokL y = true ↔ tokN y ≠ 0 ∧ y.drop (tokN y) = [] := by
  have hle := tokN_le y
  unfold isTokL
  simp only [Bool.and_eq_true, decide_eq_true_eq]
  constructor
  · rintro ⟨h1, h2⟩
    refine ⟨fun e => ?_, List.drop_of_length_le (by omega)⟩
    rw [e] at h2
    rw [List.eq_nil_of_length_eq_zero h2.symm] at h1
    cases h1
  · rintro ⟨h1, h2⟩
    have := congrArg List.length h2
    rw [List.length_drop, List.length_nil] at this
    refine ⟨?_, by omega⟩
    cases y with
    | nil => simp at hle; omega
    | cons c r => rfl
theorem rowF_nil (w : World) : RowF w (.slice none 0 0) [] := ⟨none, 0, rfl, by simp, by simp, Or.inl rfl⟩
/-- What the value's type is told to be. -/
def TypIs (s : ByteArray) (kd : List UInt8) : Prop := typK s.data.toList = (if isTypL kd = true then kd else plainT) ∧ typF s.data.toList = (if isTypL kd = true then parsL (behL s.data.toList) else [])
theorem typIs (s : ByteArray) : TypIs s ((trimL (kndL s.data.toList)).map smB) := by
  unfold TypIs typK typF
  rw [isTypL_small]
  exact ⟨rfl, rfl⟩

set_option maxHeartbeats 16000000 in
set_option maxRecDepth 100000 in
theorem refType_any (s : ByteArray) (w : World) (hs : s.size ≤ 4194304) :
    Calls Tryz.prog 5 #[.string s] w fun e w' => ∃ v, e = .returned (.tuple #[.string (bts (typK s.data.toList)), v]) ∧ RowF w' v ((typF s.data.toList).map fldP) ∧ Below w.heap.size w w' := by
  obtain ⟨i0, hi, hz0, hz1, hz2⟩ := info_parts fieldInfoM
  have HTI := hide (typIs s)
  go_enter Tryz.func5, Tryz.ntmps5
  go_wp2
  go_loopw [4, 5, 6] (fun x y z wr => ∃ k : Nat, x = .string s ∧ y = .string ⟨#[]⟩ ∧ z = .int .i64 k ∧ k ≤ s.size ∧ Hid (∀ j (hj : j < s.size), j < k → s[j] ≠ 59) ∧ wr = w) (fun _ _ z _ => s.size - (intOf z).toNat)
  case atStart => exact ⟨0, rfl, rfl, rfl, Nat.zero_le _, hide (fun j hj h => by omega), rfl⟩
  case round =>
    obtain ⟨k, rfl, rfl, rfl, hk, HE, hw⟩ := hrel
    have hw2 := hw.symm
    subst hw2
    clear hw
    by_cases hlt : k < s.size
    · have hlt' : (k : Int) < (s.size : Int) := by omega
      by_cases h59 : s[k] = 59
      · have e1 : (s[k].toNat : Int) = 59 := by rw [h59]; rfl
        obtain ⟨q1, q2⟩ := kb_break hlt (unhide HE) h59
        have hs1 := fun W => slice_upto s (k : Int) k rfl hk W
        have hs2 := fun W => slice_from s (k : Int) k rfl hk W
        have hKB : (s.extract 0 k).data.toList = kndL s.data.toList := by rw [toList_upto, q1]
        have hRB : (s.extract k s.size).data.toList = behL s.data.toList := by rw [toList_from, q2]
        have hKz : (s.extract 0 k).size ≤ 4194304 := by rw [ByteArray.size_extract]; omega
        have hRz : (s.extract k s.size).size ≤ 4194304 := by rw [ByteArray.size_extract]; omega
        have HKB := hide hKB
        have HRB := hide hRB
        clear hKB hRB q1 q2 HE h59 hk
        generalize s.extract 0 k = KB at hs1 HKB hKz
        generalize s.extract k s.size = RB at hs2 HRB hRz
        go_wp2
        go_quiet (fail)
        have HB1 := hide (below_drewN (Below.refl w.heap.size w) nq)
        generalize w.drewN nq = W1 at HB1 ⊢
        clear hs1 hs2 e1 hlt' hlt
        have HTR := hide (fun W => refTrim_any KB W (by omega))
        rw [unhide HKB] at HTR
        obtain ⟨kd, hkd⟩ : ∃ kd, (trimL (kndL s.data.toList)).map smB = kd := ⟨_, rfl⟩
        rw [hkd] at HTI
        have hkz : kd.length ≤ 4194304 := by
          have h1 := trimL_len (kndL s.data.toList)
          have h2 := congrArg List.length (unhide HKB)
          rw [sizeL] at h2
          rw [← hkd, List.length_map]
          omega
        have HSM := hide (fun W => refSmallM_l (trimL (kndL s.data.toList)) W (by have := congrArg List.length hkd; rw [List.length_map] at this; omega))
        rw [hkd] at HSM
        generalize bts (trimL (kndL s.data.toList)) = K1 at HTR HSM
        have HTK := hide (fun W => refToken_any (bts kd) W (by rw [size_bts]; omega))
        rw [toList_bts] at HTK
        have hnle := tokN_le kd
        have HSP := hide (fun h => typ_split (K := kd) h)
        have HJN := hide (fun y h0 h1 => typ_join (K := kd) (y := y) h0 h1)
        obtain ⟨n, hn⟩ : ∃ n, tokN kd = n := ⟨_, rfl⟩
        rw [hn] at HTK hnle HSP HJN
        have hsz : (bts kd).size = kd.length := size_bts _
        have hasz : ((bts kd).extract 0 n).size = n := by rw [size_part _ 0 n (by omega)]; omega
        have hae : ((bts kd).extract 0 n).toList.isEmpty = decide (n = 0) := by rw [empty_size, hasz]
        obtain ⟨l2, hl2⟩ : ∃ l2, kd.drop n = l2 := ⟨_, rfl⟩
        have hme : (bts kd).extract n (bts kd).size = bts l2 := by apply ext_list; rw [toList_from, toList_bts, toList_bts, hl2]
        rw [hme] at HTK
        have hl2z : l2.length ≤ 4194304 := by rw [← hl2, List.length_drop]; omega
        rw [hl2] at HSP HJN
        have hz2 : (bts l2).size = l2.length := size_bts _
        have he2 := bts_isEmpty l2
        clear hn hsz hasz hkd hl2 hme HKB
        generalize (bts kd).extract 0 n = a1 at HTK hae
        by_cases h0 : n = 0
        · rw [decide_eq_true h0] at hae
          have hno : ¬ isTypL kd = true := by
            intro h
            exact (unhide HSP h).1 h0
          have HNO : Hid (typK s.data.toList = plainT ∧ typF s.data.toList = []) := hide (by
            have h := unhide HTI
            unfold TypIs at h
            rw [if_neg hno, if_neg hno] at h
            exact h)
          clear hno
          clear HSP HJN h0 hz2 hnle hkz
          go_wp2_with fail
          refine (unhide HTR _).mono ?_
          rintro e wt ⟨rfl, ht⟩
          have ht2 := ht.symm
          subst ht2
          clear ht
          clear HTR
          go_wp2_with fail
          refine (unhide HSM _).mono ?_
          rintro e w2 ⟨rfl, b2⟩
          have HB2 := hide (belows' (unhide HB1) b2)
          clear HSM HB1 b2
          go_wp2_with fail
          refine (unhide HTK _).mono ?_
          rintro e w3 ⟨rfl, b3⟩
          have HB3 := hide (belows' (unhide HB2) b3)
          clear HTK HB2 b3
          go_wp2
          go_ret2
          exact ⟨_, by rw [(unhide HNO).1]; rfl, by rw [(unhide HNO).2]; exact rowF_nil _, unhide HB3⟩
        rw [decide_eq_false h0] at hae
        cases hc2 : l2 with
        | nil =>
          rw [decide_eq_true hc2] at he2
          have hno : ¬ isTypL kd = true := by
            intro h
            obtain ⟨_, y, hy, _⟩ := unhide HSP h
            rw [hc2] at hy
            cases hy
          have HNO : Hid (typK s.data.toList = plainT ∧ typF s.data.toList = []) := hide (by
            have h := unhide HTI
            unfold TypIs at h
            rw [if_neg hno, if_neg hno] at h
            exact h)
          clear hno
          rw [hc2] at he2 HTK
          clear HSP HJN h0 hz2 hnle hc2 hkz
          go_wp2_with fail
          refine (unhide HTR _).mono ?_
          rintro e wt ⟨rfl, ht⟩
          have ht2 := ht.symm
          subst ht2
          clear ht
          clear HTR
          go_wp2_with fail
          refine (unhide HSM _).mono ?_
          rintro e w2 ⟨rfl, b2⟩
          have HB2 := hide (belows' (unhide HB1) b2)
          clear HSM HB1 b2
          go_wp2_with fail
          refine (unhide HTK _).mono ?_
          rintro e w3 ⟨rfl, b3⟩
          have HB3 := hide (belows' (unhide HB2) b3)
          clear HTK HB2 b3
          go_wp2
          go_ret2
          exact ⟨_, by rw [(unhide HNO).1]; rfl, by rw [(unhide HNO).2]; exact rowF_nil _, unhide HB3⟩
        | cons c y =>
          rw [decide_eq_false (by rw [hc2]; simp : ¬ l2 = [])] at he2
          obtain ⟨hp2, hp3⟩ := bts_first hc2
          have hp2' : (0 : Int) < ((bts l2).size : Int) := by omega
          have hp2'' : (1 : Int) ≤ ((bts l2).size : Int) := by omega
          by_cases hc : c = 47
          · subst hc
            have hpb : ((bts l2)[0].toNat : Int) = 47 := by rw [hp3]; rfl
            have hpb2 : (((bts l2)[0].toNat : Int) != 47) = false := by rw [hpb]; rfl
            have hyy : (bts l2).extract 1 (bts l2).size = bts y := by apply ext_list; rw [toList_from, toList_bts, toList_bts, hc2]; rfl
            have hyz : y.length ≤ 4194304 := by have := congrArg List.length hc2; simp only [List.length_cons] at this; omega
            have HT2 := hide (fun W => refToken_any ((bts l2).extract 1 (bts l2).size) W (by rw [hyy, size_bts]; omega))
            have hyt : ((bts l2).extract 1 (bts l2).size).data.toList = y := by rw [hyy, toList_bts]
            rw [hyt] at HT2
            have hJ := unhide HJN y h0 hc2
            have hmle := tokN_le y
            have hti := isTokL_iff y
            obtain ⟨m, hm⟩ : ∃ m, tokN y = m := ⟨_, rfl⟩
            rw [hm] at HT2 hmle hti
            have hys : ((bts l2).extract 1 (bts l2).size).size = y.length := by rw [hyy, size_bts]
            have hbsz : (((bts l2).extract 1 (bts l2).size).extract 0 m).size = m := by rw [size_part _ 0 m (by omega)]; omega
            have hbe : (((bts l2).extract 1 (bts l2).size).extract 0 m).toList.isEmpty = decide (m = 0) := by rw [empty_size, hbsz]
            have hee : (((bts l2).extract 1 (bts l2).size).extract m ((bts l2).extract 1 (bts l2).size).size).toList.isEmpty = decide (y.drop m = []) := by
              rw [ByteArray.toList_eq, toList_from, hyt]
              cases y.drop m <;> simp
            generalize ((bts l2).extract 1 (bts l2).size).extract 0 m = b1 at HT2 hbe
            generalize ((bts l2).extract 1 (bts l2).size).extract m ((bts l2).extract 1 (bts l2).size).size = b2 at HT2 hee
            clear hyt hys hyy hbsz
            generalize hL2 : bts l2 = L2 at HTK he2 hp2 hp3 hp2' hp2'' hpb hpb2 hz2 HT2
            have k2 : L2.size ≤ 4194304 := by omega
            clear hL2 hm hp3 hz2
            by_cases hm0 : m = 0
            · rw [decide_eq_true hm0] at hbe
              have hno : ¬ isTypL kd = true := by
                intro h
                rw [hJ, hti] at h
                exact h.1 hm0
              have HNO : Hid (typK s.data.toList = plainT ∧ typF s.data.toList = []) := hide (by
                have h := unhide HTI
                unfold TypIs at h
                rw [if_neg hno, if_neg hno] at h
                exact h)
              clear hno
              clear HSP HJN h0 hJ hti hc2 hnle hkz hmle hyz hl2z
              clear hm0
              go_wp2_with fail
              refine (unhide HTR _).mono ?_
              rintro e wt ⟨rfl, ht⟩
              have ht2 := ht.symm
              subst ht2
              clear ht
              clear HTR
              go_wp2_with fail
              refine (unhide HSM _).mono ?_
              rintro e w2 ⟨rfl, b2⟩
              have HB2 := hide (belows' (unhide HB1) b2)
              clear HSM HB1 b2
              go_wp2_with fail
              refine (unhide HTK _).mono ?_
              rintro e w3 ⟨rfl, b3⟩
              have HB3 := hide (belows' (unhide HB2) b3)
              clear HTK HB2 b3
              go_wp2_with fail
              refine (unhide HT2 _).mono ?_
              rintro e w4 ⟨rfl, b4⟩
              have HB4 := hide (belows' (unhide HB3) b4)
              clear HT2 HB3 b4
              go_wp2
              go_ret2
              exact ⟨_, by rw [(unhide HNO).1]; rfl, by rw [(unhide HNO).2]; exact rowF_nil _, unhide HB4⟩
            · rw [decide_eq_false hm0] at hbe
              by_cases hye : y.drop m = []
              · rw [decide_eq_true hye] at hee
                have HYES : Hid (typK s.data.toList = kd ∧ typF s.data.toList = parsL (behL s.data.toList)) := hide (by
                  have h := unhide HTI
                  unfold TypIs at h
                  rw [if_pos (by rw [hJ, hti]; exact ⟨hm0, hye⟩), if_pos (by rw [hJ, hti]; exact ⟨hm0, hye⟩)] at h
                  exact h)
                clear hm0 hye
                clear HSP HJN h0 hJ hti hc2 hnle hkz hmle hyz hl2z
                go_wp2_with fail
                refine (unhide HTR _).mono ?_
                rintro e wt ⟨rfl, ht⟩
                have ht2 := ht.symm
                subst ht2
                clear ht
                clear HTR
                go_wp2_with fail
                refine (unhide HSM _).mono ?_
                rintro e w2 ⟨rfl, b2⟩
                have HB2 := hide (belows' (unhide HB1) b2)
                clear HSM HB1 b2
                go_wp2_with fail
                refine (unhide HTK _).mono ?_
                rintro e w3 ⟨rfl, b3⟩
                have HB3 := hide (belows' (unhide HB2) b3)
                clear HTK HB2 b3
                go_wp2_with fail
                refine (unhide HT2 _).mono ?_
                rintro e w4 ⟨rfl, b4⟩
                have HB4 := hide (belows' (unhide HB3) b4)
                clear HT2 HB3 b4
                have hYF := (unhide HYES).2
                have HRB2 := hide (show bts (behL s.data.toList) = RB by first | rw [← unhide HRB, bts_toList] | (rw [← unhide HRB]; rfl))
                have hRl : (behL s.data.toList).length ≤ 4194304 := by first | (rw [← unhide HRB, sizeL]; exact hRz) | (rw [← unhide HRB]; exact Nat.zero_le _)
                go_wp2
                go_loopw [5, 11, 12, 13, 14] (fun x yv _ _ _ wr2 => ∃ (cur : List UInt8) (acc : List Fld) (m : Nat), x = .string (bts cur) ∧ cur.length + m ≤ 4194304 ∧ Hid (acc.length = m) ∧ Hid ((typF s.data.toList).map fldP = acc ++ (parsL cur).map fldP) ∧ Hid (∀ f ∈ acc, Fits f) ∧ wr2.ownsRow w.heap.size 40 2 yv m (flatF acc) ∧ Hid (Below w.heap.size w wr2)) (fun x _ _ _ _ _ => strZ x)
                case atStart => exact ⟨behL s.data.toList, [], 0, by rw [unhide HRB2], by omega, hide rfl, hide (by rw [hYF]; rfl), hide (by simp), ⟨by simp [flatF], Or.inl ⟨rfl, rfl⟩⟩, HB4⟩
                case round =>
                  obtain ⟨cur, acc, m, rfl, hcl, HM, HE, HFT, hown, HB⟩ := hrel
                  have hbs := (unhide HB).size
                  have hzc : (bts cur).size = cur.length := size_bts _
                  have hem := bts_isEmpty cur
                  clear hYF hRl
                  by_cases hcur : cur.head? = some 59
                  · obtain ⟨ct, hct⟩ : ∃ t, cur = 59 :: t := by
                      cases cur with
                      | nil => simp at hcur
                      | cons c t => simp only [List.head?_cons, Option.some.injEq] at hcur; exact ⟨t, by rw [hcur]⟩
                    rw [decide_eq_false (by rw [hct]; simp : ¬ cur = [])] at hem
                    obtain ⟨gp, gq⟩ := bts_first hct
                    have gp' : (0 : Int) < ((bts cur).size : Int) := by omega
                    have gp'' : (1 : Int) ≤ ((bts cur).size : Int) := by omega
                    have gb : ((bts cur)[0].toNat : Int) = 59 := by rw [gq]; rfl
                    have hta : ((bts cur).extract 1 (bts cur).size).data.toList = cur.tail := by rw [toList_from, toList_bts]; simp
                    have hc1 : 1 ≤ cur.length := by rw [hct]; simp
                    have HRP := hide (fun W => refParam_any ((bts cur).extract 1 (bts cur).size) W (by rw [← sizeL, hta, List.length_tail]; omega))
                    rw [hta] at HRP
                    generalize hBC : bts cur = BC at HRP hem gp gq gp' gp'' gb hzc
                    have hBz : BC.size ≤ 4194304 := by omega
                    have HBC := hide hBC
                    clear hBC gq hct
                    cases hp : parM cur.tail with
                    | none =>
                      have HF : Hid ((typF s.data.toList).map fldP = acc) := hide (by rw [unhide HE, parsL_none hcur hp]; simp)
                      rw [hp] at HRP
                      have hm := unhide HM
                      have HR := hide (rowF_of_own (l := acc) (by rw [hm]; exact hown) (by omega) (unhide HFT))
                      obtain ⟨ay, cy, rfl⟩ := own_formH hown
                      clear hcur hp HE HFT hown HM hc1 hta hzc hm
                      go_wp2_with fail
                      refine (unhide HRP _).mono ?_
                      rintro e w5 ⟨f1, f2, f3, ok, rfl, hok, b5⟩
                      have hok' : ok = false := hok
                      subst hok'
                      have hal : Below w5.heap.size w5 (w5.alloc (Obj.cells #[.string f1, .string f2] 40)) := (Below.refl _ _).alloc (Nat.le_refl _) _
                      have HR2 := hide (((unhide HR).below b5).below hal)
                      have HB5 := hide (belows' (belows' (unhide HB) b5) hal)
                      clear b5 hal HR hok
                      go_wp2
                      go_ret2
                      exact ⟨_, by rw [(unhide HYES).1]; rfl, by rw [unhide HF]; exact unhide HR2, unhide HB5⟩
                    | some p =>
                      obtain ⟨⟨nn, v⟩, r⟩ := p
                      have hpl := par_len hp
                      rw [List.length_tail] at hpl
                      have hzn : (bts nn).size = nn.length := size_bts _
                      have hzv : (bts v).size = v.length := size_bts _
                      have HE2 : Hid ((typF s.data.toList).map fldP = (acc ++ [(bts nn, bts v)]) ++ (parsL r).map fldP) := hide (by rw [unhide HE, parsL_some hcur hp]; simp [fldP])
                      have HFT2 : Hid (∀ f ∈ acc ++ [(bts nn, bts v)], Fits f) := hide (fun f hf => by
                        rcases List.mem_append.1 hf with h1 | h1
                        · exact unhide HFT f h1
                        · rw [List.mem_singleton] at h1
                          rw [h1]
                          exact ⟨by show (bts nn).size ≤ _; omega, by show (bts v).size ≤ _; omega⟩)
                      have HNX : Hid (flatF acc ++ [.string (bts nn), .string (bts v)] = flatF (acc ++ [(bts nn, bts v)]) ∧ (acc ++ [(bts nn, bts v)]).length = m + 1) := hide ⟨by rw [flatF_append]; simp [flatF, cellsF], by rw [List.length_append, unhide HM]; rfl⟩
                      have hcz : cur.length ≤ 4194304 := by omega
                      have hmz : m ≤ 4194304 := by omega
                      have HLN : Hid (r.length + (m + 1) ≤ 4194304 ∧ r.length < cur.length) := hide ⟨by omega, by omega⟩
                      rw [hp] at HRP
                      simp only [ParIs] at HRP
                      clear hcur hp HE HFT HM hzn hzv hc1 hta hzc hpl hcl
                      generalize bts nn = nb at HRP HE2 HFT2 HNX
                      generalize bts v = vb at HRP HE2 HFT2 HNX
                      go_wp2_with fail
                      refine (unhide HRP _).mono ?_
                      rintro e w5 ⟨f1, f2, f3, ok, rfl, ⟨h1, h2, h3, h4⟩, b5⟩
                      subst h1 h2 h3 h4
                      have hal : Below w5.heap.size w5 (w5.alloc (Obj.cells #[.string f1, .string f2] 40)) := (Below.refl _ _).alloc (Nat.le_refl _) _
                      have hown3 := own_below (own_below hown b5) hal
                      have hba := belows' (belows' (unhide HB) b5) hal
                      have hss := hba.size
                      have HBA := hide hba
                      clear b5 hal hown hba HB
                      go_wp2_with (at_builtin; refine wpList_append_own _ rfl _ _ 22 rfl w.heap.size 40 i0 (.agg #[.string ByteArray.empty, .string ByteArray.empty]) 2 32 Tryz.underlying22 hi hz0 hz1 hz2 rfl (by decide) _ _ _ rfl (hown3.alloc _) ⟨w5.heap.size + 1, 0, none⟩ 1 1 [.string f1, .string f2] rfl rfl ?c1 ?c2 ?c3 ?c4 ?c5 ?_)
                      case c1 =>
                        intro j u hj
                        rw [Addr.add_lit, Nat.zero_add]
                        have := (Blk.new (w5.alloc (Obj.cells #[.string f1, .string f2] 40)) 40 #[.string f1, .string f2]).cell j
                        simp only [World.size_alloc] at this
                        rw [this]
                        simpa using hj
                      case c2 => intro u hu; simp at hu; rcases hu with rfl | rfl <;> rfl
                      case c3 => unfold maxLen; omega
                      case c4 => omega
                      case c5 => have := hss; simp at this ⊢; omega
                      intro v' w7 hown' hgrow _
                      have hb4 : Below w.heap.size w w7 := ((unhide HBA).alloc hss _).grown hgrow (by have := hss; simp at this ⊢; omega) (fun g hg => (hown3.lt g hg).1)
                      rw [(unhide HNX).1] at hown'
                      have O4 := hide hown'
                      have B4 := hide hb4
                      clear hown' hb4 hown3 hgrow HBA
                      go_wp2
                      exact ⟨⟨r, acc ++ [(f1, f2)], m + 1, rfl, (unhide HLN).1, hide (unhide HNX).2, HE2, HFT2, unhide O4, B4⟩, by show (bts r).size < BC.size; rw [← unhide HBC, size_bts, size_bts]; exact (unhide HLN).2⟩
                  · have HF : Hid ((typF s.data.toList).map fldP = acc) := hide (by rw [unhide HE, parsL_no hcur]; simp)
                    have hm := unhide HM
                    have HR := hide (rowF_of_own (l := acc) (by rw [hm]; exact hown) (by omega) (unhide HFT))
                    obtain ⟨ay, cy, rfl⟩ := own_formH hown
                    have hBz : (bts cur).size ≤ 4194304 := by omega
                    clear HE HFT hown HM hm
                    cases hcc : cur with
                    | nil =>
                      rw [decide_eq_true hcc] at hem
                      have hcb : bts ([] : List UInt8) = ⟨#[]⟩ := rfl
                      rw [hcc] at hem
                      clear hcur hcc hzc hBz
                      go_wp2
                      go_ret2
                      exact ⟨_, by rw [(unhide HYES).1]; rfl, by rw [unhide HF]; exact unhide HR, unhide HB⟩
                    | cons c ct =>
                      rw [decide_eq_false (by rw [hcc]; simp : ¬ cur = [])] at hem
                      obtain ⟨gp, gq⟩ := bts_first hcc
                      have gp' : (0 : Int) < ((bts cur).size : Int) := by omega
                      have gb : ¬ ((bts cur)[0].toNat : Int) = 59 := fun e => hcur (by
                        rw [hcc, List.head?_cons]
                        rw [gq] at e
                        rw [show c = 59 from UInt8.toNat_inj.mp (by have : (59 : UInt8).toNat = 59 := rfl; omega)])
                      clear hzc gq hcur
                      rw [← hcc]
                      generalize bts cur = BC at gp gp' gb hem hBz ⊢
                      clear hcc
                      go_wp2
                      go_ret2
                      exact ⟨_, by rw [(unhide HYES).1]; rfl, by rw [unhide HF]; exact unhide HR, unhide HB⟩
              · rw [decide_eq_false hye] at hee
                have hno : ¬ isTypL kd = true := by
                  intro h
                  rw [hJ, hti] at h
                  exact hye h.2
                have HNO : Hid (typK s.data.toList = plainT ∧ typF s.data.toList = []) := hide (by
                  have h := unhide HTI
                  unfold TypIs at h
                  rw [if_neg hno, if_neg hno] at h
                  exact h)
                clear hno
                clear hm0 hye
                clear HSP HJN h0 hJ hti hc2 hnle hkz hmle hyz hl2z
                go_wp2_with fail
                refine (unhide HTR _).mono ?_
                rintro e wt ⟨rfl, ht⟩
                have ht2 := ht.symm
                subst ht2
                clear ht
                clear HTR
                go_wp2_with fail
                refine (unhide HSM _).mono ?_
                rintro e w2 ⟨rfl, b2⟩
                have HB2 := hide (belows' (unhide HB1) b2)
                clear HSM HB1 b2
                go_wp2_with fail
                refine (unhide HTK _).mono ?_
                rintro e w3 ⟨rfl, b3⟩
                have HB3 := hide (belows' (unhide HB2) b3)
                clear HTK HB2 b3
                go_wp2_with fail
                refine (unhide HT2 _).mono ?_
                rintro e w4 ⟨rfl, b4⟩
                have HB4 := hide (belows' (unhide HB3) b4)
                clear HT2 HB3 b4
                go_wp2
                go_ret2
                exact ⟨_, by rw [(unhide HNO).1]; rfl, by rw [(unhide HNO).2]; exact rowF_nil _, unhide HB4⟩
          · have hpb : ¬ ((bts l2)[0].toNat : Int) = 47 := fun e => hc (by rw [← hp3]; exact UInt8.toNat_inj.mp (by have : (47 : UInt8).toNat = 47 := rfl; omega))
            have hpb2 : (((bts l2)[0].toNat : Int) != 47) = true := by simpa using hpb
            have hno : ¬ isTypL kd = true := by
              intro h
              obtain ⟨_, y2, hy, _⟩ := unhide HSP h
              rw [hc2] at hy
              injection hy with h1 _
              exact hc h1
            have HNO : Hid (typK s.data.toList = plainT ∧ typF s.data.toList = []) := hide (by
              have h := unhide HTI
              unfold TypIs at h
              rw [if_neg hno, if_neg hno] at h
              exact h)
            clear hno
            have k2 : (bts l2).size ≤ 4194304 := by omega
            clear hp3
            generalize bts l2 = L2 at HTK he2 hp2 hp2' hp2'' hpb hpb2 hz2
            clear HSP HJN h0 hz2 hnle hc2 hc hkz hl2z
            go_wp2_with fail
            refine (unhide HTR _).mono ?_
            rintro e wt ⟨rfl, ht⟩
            have ht2 := ht.symm
            subst ht2
            clear ht
            clear HTR
            go_wp2_with fail
            refine (unhide HSM _).mono ?_
            rintro e w2 ⟨rfl, b2⟩
            have HB2 := hide (belows' (unhide HB1) b2)
            clear HSM HB1 b2
            go_wp2_with fail
            refine (unhide HTK _).mono ?_
            rintro e w3 ⟨rfl, b3⟩
            have HB3 := hide (belows' (unhide HB2) b3)
            clear HTK HB2 b3
            go_wp2
            go_ret2
            exact ⟨_, by rw [(unhide HNO).1]; rfl, by rw [(unhide HNO).2]; exact rowF_nil _, unhide HB3⟩
      · have e1 : ¬ (s[k].toNat : Int) = 59 := fun e => h59 (UInt8.toNat_inj.mp (by have : (59 : UInt8).toNat = 59 := rfl; omega))
        have HE2 : Hid (∀ j (hj : j < s.size), j < k + 1 → s[j] ≠ 59) := hide (fun j hj h => by
          by_cases e : j = k
          · subst e; exact h59
          · exact unhide HE j hj (by omega))
        clear HE h59
        go_wp2
        exact ⟨⟨k + 1, rfl, rfl, by go_num, by omega, HE2, trivial⟩, by simp [intOf]; omega⟩
    · have hlt' : ¬ (k : Int) < (s.size : Int) := by omega
      obtain ⟨q1, q2⟩ := kb_none (s := s) (fun j hj => unhide HE j hj (by omega))
      have HKB : Hid (s.data.toList = kndL s.data.toList) := hide q1.symm
      have HRB : Hid ((⟨#[]⟩ : ByteArray).data.toList = behL s.data.toList) := hide q2.symm
      have hKz : s.size ≤ 4194304 := hs
      have hRz : (⟨#[]⟩ : ByteArray).size ≤ 4194304 := by decide
      have HB1 := hide (Below.refl w.heap.size w)
      clear q1 q2 HE hlt hk
      have HTR := hide (fun W => refTrim_any s W (by omega))
      rw [unhide HKB] at HTR
      obtain ⟨kd, hkd⟩ : ∃ kd, (trimL (kndL s.data.toList)).map smB = kd := ⟨_, rfl⟩
      rw [hkd] at HTI
      have hkz : kd.length ≤ 4194304 := by
        have h1 := trimL_len (kndL s.data.toList)
        have h2 := congrArg List.length (unhide HKB)
        rw [sizeL] at h2
        rw [← hkd, List.length_map]
        omega
      have HSM := hide (fun W => refSmallM_l (trimL (kndL s.data.toList)) W (by have := congrArg List.length hkd; rw [List.length_map] at this; omega))
      rw [hkd] at HSM
      generalize bts (trimL (kndL s.data.toList)) = K1 at HTR HSM
      have HTK := hide (fun W => refToken_any (bts kd) W (by rw [size_bts]; omega))
      rw [toList_bts] at HTK
      have hnle := tokN_le kd
      have HSP := hide (fun h => typ_split (K := kd) h)
      have HJN := hide (fun y h0 h1 => typ_join (K := kd) (y := y) h0 h1)
      obtain ⟨n, hn⟩ : ∃ n, tokN kd = n := ⟨_, rfl⟩
      rw [hn] at HTK hnle HSP HJN
      have hsz : (bts kd).size = kd.length := size_bts _
      have hasz : ((bts kd).extract 0 n).size = n := by rw [size_part _ 0 n (by omega)]; omega
      have hae : ((bts kd).extract 0 n).toList.isEmpty = decide (n = 0) := by rw [empty_size, hasz]
      obtain ⟨l2, hl2⟩ : ∃ l2, kd.drop n = l2 := ⟨_, rfl⟩
      have hme : (bts kd).extract n (bts kd).size = bts l2 := by apply ext_list; rw [toList_from, toList_bts, toList_bts, hl2]
      rw [hme] at HTK
      have hl2z : l2.length ≤ 4194304 := by rw [← hl2, List.length_drop]; omega
      rw [hl2] at HSP HJN
      have hz2 : (bts l2).size = l2.length := size_bts _
      have he2 := bts_isEmpty l2
      clear hn hsz hasz hkd hl2 hme HKB
      generalize (bts kd).extract 0 n = a1 at HTK hae
      by_cases h0 : n = 0
      · rw [decide_eq_true h0] at hae
        have hno : ¬ isTypL kd = true := by
          intro h
          exact (unhide HSP h).1 h0
        have HNO : Hid (typK s.data.toList = plainT ∧ typF s.data.toList = []) := hide (by
          have h := unhide HTI
          unfold TypIs at h
          rw [if_neg hno, if_neg hno] at h
          exact h)
        clear hno
        clear HSP HJN h0 hz2 hnle hkz
        go_wp2_with fail
        refine (unhide HTR _).mono ?_
        rintro e wt ⟨rfl, ht⟩
        have ht2 := ht.symm
        subst ht2
        clear ht
        clear HTR
        go_wp2_with fail
        refine (unhide HSM _).mono ?_
        rintro e w2 ⟨rfl, b2⟩
        have HB2 := hide (belows' (unhide HB1) b2)
        clear HSM HB1 b2
        go_wp2_with fail
        refine (unhide HTK _).mono ?_
        rintro e w3 ⟨rfl, b3⟩
        have HB3 := hide (belows' (unhide HB2) b3)
        clear HTK HB2 b3
        go_wp2
        go_ret2
        exact ⟨_, by rw [(unhide HNO).1]; rfl, by rw [(unhide HNO).2]; exact rowF_nil _, unhide HB3⟩
      rw [decide_eq_false h0] at hae
      cases hc2 : l2 with
      | nil =>
        rw [decide_eq_true hc2] at he2
        have hno : ¬ isTypL kd = true := by
          intro h
          obtain ⟨_, y, hy, _⟩ := unhide HSP h
          rw [hc2] at hy
          cases hy
        have HNO : Hid (typK s.data.toList = plainT ∧ typF s.data.toList = []) := hide (by
          have h := unhide HTI
          unfold TypIs at h
          rw [if_neg hno, if_neg hno] at h
          exact h)
        clear hno
        rw [hc2] at he2 HTK
        clear HSP HJN h0 hz2 hnle hc2 hkz
        go_wp2_with fail
        refine (unhide HTR _).mono ?_
        rintro e wt ⟨rfl, ht⟩
        have ht2 := ht.symm
        subst ht2
        clear ht
        clear HTR
        go_wp2_with fail
        refine (unhide HSM _).mono ?_
        rintro e w2 ⟨rfl, b2⟩
        have HB2 := hide (belows' (unhide HB1) b2)
        clear HSM HB1 b2
        go_wp2_with fail
        refine (unhide HTK _).mono ?_
        rintro e w3 ⟨rfl, b3⟩
        have HB3 := hide (belows' (unhide HB2) b3)
        clear HTK HB2 b3
        go_wp2
        go_ret2
        exact ⟨_, by rw [(unhide HNO).1]; rfl, by rw [(unhide HNO).2]; exact rowF_nil _, unhide HB3⟩
      | cons c y =>
        rw [decide_eq_false (by rw [hc2]; simp : ¬ l2 = [])] at he2
        obtain ⟨hp2, hp3⟩ := bts_first hc2
        have hp2' : (0 : Int) < ((bts l2).size : Int) := by omega
        have hp2'' : (1 : Int) ≤ ((bts l2).size : Int) := by omega
        by_cases hc : c = 47
        · subst hc
          have hpb : ((bts l2)[0].toNat : Int) = 47 := by rw [hp3]; rfl
          have hpb2 : (((bts l2)[0].toNat : Int) != 47) = false := by rw [hpb]; rfl
          have hyy : (bts l2).extract 1 (bts l2).size = bts y := by apply ext_list; rw [toList_from, toList_bts, toList_bts, hc2]; rfl
          have hyz : y.length ≤ 4194304 := by have := congrArg List.length hc2; simp only [List.length_cons] at this; omega
          have HT2 := hide (fun W => refToken_any ((bts l2).extract 1 (bts l2).size) W (by rw [hyy, size_bts]; omega))
          have hyt : ((bts l2).extract 1 (bts l2).size).data.toList = y := by rw [hyy, toList_bts]
          rw [hyt] at HT2
          have hJ := unhide HJN y h0 hc2
          have hmle := tokN_le y
          have hti := isTokL_iff y
          obtain ⟨m, hm⟩ : ∃ m, tokN y = m := ⟨_, rfl⟩
          rw [hm] at HT2 hmle hti
          have hys : ((bts l2).extract 1 (bts l2).size).size = y.length := by rw [hyy, size_bts]
          have hbsz : (((bts l2).extract 1 (bts l2).size).extract 0 m).size = m := by rw [size_part _ 0 m (by omega)]; omega
          have hbe : (((bts l2).extract 1 (bts l2).size).extract 0 m).toList.isEmpty = decide (m = 0) := by rw [empty_size, hbsz]
          have hee : (((bts l2).extract 1 (bts l2).size).extract m ((bts l2).extract 1 (bts l2).size).size).toList.isEmpty = decide (y.drop m = []) := by
            rw [ByteArray.toList_eq, toList_from, hyt]
            cases y.drop m <;> simp
          generalize ((bts l2).extract 1 (bts l2).size).extract 0 m = b1 at HT2 hbe
          generalize ((bts l2).extract 1 (bts l2).size).extract m ((bts l2).extract 1 (bts l2).size).size = b2 at HT2 hee
          clear hyt hys hyy hbsz
          generalize hL2 : bts l2 = L2 at HTK he2 hp2 hp3 hp2' hp2'' hpb hpb2 hz2 HT2
          have k2 : L2.size ≤ 4194304 := by omega
          clear hL2 hm hp3 hz2
          by_cases hm0 : m = 0
          · rw [decide_eq_true hm0] at hbe
            have hno : ¬ isTypL kd = true := by
              intro h
              rw [hJ, hti] at h
              exact h.1 hm0
            have HNO : Hid (typK s.data.toList = plainT ∧ typF s.data.toList = []) := hide (by
              have h := unhide HTI
              unfold TypIs at h
              rw [if_neg hno, if_neg hno] at h
              exact h)
            clear hno
            clear HSP HJN h0 hJ hti hc2 hnle hkz hmle hyz hl2z
            clear hm0
            go_wp2_with fail
            refine (unhide HTR _).mono ?_
            rintro e wt ⟨rfl, ht⟩
            have ht2 := ht.symm
            subst ht2
            clear ht
            clear HTR
            go_wp2_with fail
            refine (unhide HSM _).mono ?_
            rintro e w2 ⟨rfl, b2⟩
            have HB2 := hide (belows' (unhide HB1) b2)
            clear HSM HB1 b2
            go_wp2_with fail
            refine (unhide HTK _).mono ?_
            rintro e w3 ⟨rfl, b3⟩
            have HB3 := hide (belows' (unhide HB2) b3)
            clear HTK HB2 b3
            go_wp2_with fail
            refine (unhide HT2 _).mono ?_
            rintro e w4 ⟨rfl, b4⟩
            have HB4 := hide (belows' (unhide HB3) b4)
            clear HT2 HB3 b4
            go_wp2
            go_ret2
            exact ⟨_, by rw [(unhide HNO).1]; rfl, by rw [(unhide HNO).2]; exact rowF_nil _, unhide HB4⟩
          · rw [decide_eq_false hm0] at hbe
            by_cases hye : y.drop m = []
            · rw [decide_eq_true hye] at hee
              have HYES : Hid (typK s.data.toList = kd ∧ typF s.data.toList = parsL (behL s.data.toList)) := hide (by
                have h := unhide HTI
                unfold TypIs at h
                rw [if_pos (by rw [hJ, hti]; exact ⟨hm0, hye⟩), if_pos (by rw [hJ, hti]; exact ⟨hm0, hye⟩)] at h
                exact h)
              clear hm0 hye
              clear HSP HJN h0 hJ hti hc2 hnle hkz hmle hyz hl2z
              go_wp2_with fail
              refine (unhide HTR _).mono ?_
              rintro e wt ⟨rfl, ht⟩
              have ht2 := ht.symm
              subst ht2
              clear ht
              clear HTR
              go_wp2_with fail
              refine (unhide HSM _).mono ?_
              rintro e w2 ⟨rfl, b2⟩
              have HB2 := hide (belows' (unhide HB1) b2)
              clear HSM HB1 b2
              go_wp2_with fail
              refine (unhide HTK _).mono ?_
              rintro e w3 ⟨rfl, b3⟩
              have HB3 := hide (belows' (unhide HB2) b3)
              clear HTK HB2 b3
              go_wp2_with fail
              refine (unhide HT2 _).mono ?_
              rintro e w4 ⟨rfl, b4⟩
              have HB4 := hide (belows' (unhide HB3) b4)
              clear HT2 HB3 b4
              have hYF := (unhide HYES).2
              have HRB2 := hide (show bts (behL s.data.toList) = (⟨#[]⟩ : ByteArray) by first | rw [← unhide HRB, bts_toList] | (rw [← unhide HRB]; rfl))
              have hRl : (behL s.data.toList).length ≤ 4194304 := by first | (rw [← unhide HRB, sizeL]; exact hRz) | (rw [← unhide HRB]; exact Nat.zero_le _)
              go_wp2
              go_loopw [5, 11, 12, 13, 14] (fun x yv _ _ _ wr2 => ∃ (cur : List UInt8) (acc : List Fld) (m : Nat), x = .string (bts cur) ∧ cur.length + m ≤ 4194304 ∧ Hid (acc.length = m) ∧ Hid ((typF s.data.toList).map fldP = acc ++ (parsL cur).map fldP) ∧ Hid (∀ f ∈ acc, Fits f) ∧ wr2.ownsRow w.heap.size 40 2 yv m (flatF acc) ∧ Hid (Below w.heap.size w wr2)) (fun x _ _ _ _ _ => strZ x)
              case atStart => exact ⟨behL s.data.toList, [], 0, by rw [unhide HRB2], by omega, hide rfl, hide (by rw [hYF]; rfl), hide (by simp), ⟨by simp [flatF], Or.inl ⟨rfl, rfl⟩⟩, HB4⟩
              case round =>
                obtain ⟨cur, acc, m, rfl, hcl, HM, HE, HFT, hown, HB⟩ := hrel
                have hbs := (unhide HB).size
                have hzc : (bts cur).size = cur.length := size_bts _
                have hem := bts_isEmpty cur
                clear hYF hRl
                by_cases hcur : cur.head? = some 59
                · obtain ⟨ct, hct⟩ : ∃ t, cur = 59 :: t := by
                    cases cur with
                    | nil => simp at hcur
                    | cons c t => simp only [List.head?_cons, Option.some.injEq] at hcur; exact ⟨t, by rw [hcur]⟩
                  rw [decide_eq_false (by rw [hct]; simp : ¬ cur = [])] at hem
                  obtain ⟨gp, gq⟩ := bts_first hct
                  have gp' : (0 : Int) < ((bts cur).size : Int) := by omega
                  have gp'' : (1 : Int) ≤ ((bts cur).size : Int) := by omega
                  have gb : ((bts cur)[0].toNat : Int) = 59 := by rw [gq]; rfl
                  have hta : ((bts cur).extract 1 (bts cur).size).data.toList = cur.tail := by rw [toList_from, toList_bts]; simp
                  have hc1 : 1 ≤ cur.length := by rw [hct]; simp
                  have HRP := hide (fun W => refParam_any ((bts cur).extract 1 (bts cur).size) W (by rw [← sizeL, hta, List.length_tail]; omega))
                  rw [hta] at HRP
                  generalize hBC : bts cur = BC at HRP hem gp gq gp' gp'' gb hzc
                  have hBz : BC.size ≤ 4194304 := by omega
                  have HBC := hide hBC
                  clear hBC gq hct
                  cases hp : parM cur.tail with
                  | none =>
                    have HF : Hid ((typF s.data.toList).map fldP = acc) := hide (by rw [unhide HE, parsL_none hcur hp]; simp)
                    rw [hp] at HRP
                    have hm := unhide HM
                    have HR := hide (rowF_of_own (l := acc) (by rw [hm]; exact hown) (by omega) (unhide HFT))
                    obtain ⟨ay, cy, rfl⟩ := own_formH hown
                    clear hcur hp HE HFT hown HM hc1 hta hzc hm
                    go_wp2_with fail
                    refine (unhide HRP _).mono ?_
                    rintro e w5 ⟨f1, f2, f3, ok, rfl, hok, b5⟩
                    have hok' : ok = false := hok
                    subst hok'
                    have hal : Below w5.heap.size w5 (w5.alloc (Obj.cells #[.string f1, .string f2] 40)) := (Below.refl _ _).alloc (Nat.le_refl _) _
                    have HR2 := hide (((unhide HR).below b5).below hal)
                    have HB5 := hide (belows' (belows' (unhide HB) b5) hal)
                    clear b5 hal HR hok
                    go_wp2
                    go_ret2
                    exact ⟨_, by rw [(unhide HYES).1]; rfl, by rw [unhide HF]; exact unhide HR2, unhide HB5⟩
                  | some p =>
                    obtain ⟨⟨nn, v⟩, r⟩ := p
                    have hpl := par_len hp
                    rw [List.length_tail] at hpl
                    have hzn : (bts nn).size = nn.length := size_bts _
                    have hzv : (bts v).size = v.length := size_bts _
                    have HE2 : Hid ((typF s.data.toList).map fldP = (acc ++ [(bts nn, bts v)]) ++ (parsL r).map fldP) := hide (by rw [unhide HE, parsL_some hcur hp]; simp [fldP])
                    have HFT2 : Hid (∀ f ∈ acc ++ [(bts nn, bts v)], Fits f) := hide (fun f hf => by
                      rcases List.mem_append.1 hf with h1 | h1
                      · exact unhide HFT f h1
                      · rw [List.mem_singleton] at h1
                        rw [h1]
                        exact ⟨by show (bts nn).size ≤ _; omega, by show (bts v).size ≤ _; omega⟩)
                    have HNX : Hid (flatF acc ++ [.string (bts nn), .string (bts v)] = flatF (acc ++ [(bts nn, bts v)]) ∧ (acc ++ [(bts nn, bts v)]).length = m + 1) := hide ⟨by rw [flatF_append]; simp [flatF, cellsF], by rw [List.length_append, unhide HM]; rfl⟩
                    have hcz : cur.length ≤ 4194304 := by omega
                    have hmz : m ≤ 4194304 := by omega
                    have HLN : Hid (r.length + (m + 1) ≤ 4194304 ∧ r.length < cur.length) := hide ⟨by omega, by omega⟩
                    rw [hp] at HRP
                    simp only [ParIs] at HRP
                    clear hcur hp HE HFT HM hzn hzv hc1 hta hzc hpl hcl
                    generalize bts nn = nb at HRP HE2 HFT2 HNX
                    generalize bts v = vb at HRP HE2 HFT2 HNX
                    go_wp2_with fail
                    refine (unhide HRP _).mono ?_
                    rintro e w5 ⟨f1, f2, f3, ok, rfl, ⟨h1, h2, h3, h4⟩, b5⟩
                    subst h1 h2 h3 h4
                    have hal : Below w5.heap.size w5 (w5.alloc (Obj.cells #[.string f1, .string f2] 40)) := (Below.refl _ _).alloc (Nat.le_refl _) _
                    have hown3 := own_below (own_below hown b5) hal
                    have hba := belows' (belows' (unhide HB) b5) hal
                    have hss := hba.size
                    have HBA := hide hba
                    clear b5 hal hown hba HB
                    go_wp2_with (at_builtin; refine wpList_append_own _ rfl _ _ 22 rfl w.heap.size 40 i0 (.agg #[.string ByteArray.empty, .string ByteArray.empty]) 2 32 Tryz.underlying22 hi hz0 hz1 hz2 rfl (by decide) _ _ _ rfl (hown3.alloc _) ⟨w5.heap.size + 1, 0, none⟩ 1 1 [.string f1, .string f2] rfl rfl ?c1 ?c2 ?c3 ?c4 ?c5 ?_)
                    case c1 =>
                      intro j u hj
                      rw [Addr.add_lit, Nat.zero_add]
                      have := (Blk.new (w5.alloc (Obj.cells #[.string f1, .string f2] 40)) 40 #[.string f1, .string f2]).cell j
                      simp only [World.size_alloc] at this
                      rw [this]
                      simpa using hj
                    case c2 => intro u hu; simp at hu; rcases hu with rfl | rfl <;> rfl
                    case c3 => unfold maxLen; omega
                    case c4 => omega
                    case c5 => have := hss; simp at this ⊢; omega
                    intro v' w7 hown' hgrow _
                    have hb4 : Below w.heap.size w w7 := ((unhide HBA).alloc hss _).grown hgrow (by have := hss; simp at this ⊢; omega) (fun g hg => (hown3.lt g hg).1)
                    rw [(unhide HNX).1] at hown'
                    have O4 := hide hown'
                    have B4 := hide hb4
                    clear hown' hb4 hown3 hgrow HBA
                    go_wp2
                    exact ⟨⟨r, acc ++ [(f1, f2)], m + 1, rfl, (unhide HLN).1, hide (unhide HNX).2, HE2, HFT2, unhide O4, B4⟩, by show (bts r).size < BC.size; rw [← unhide HBC, size_bts, size_bts]; exact (unhide HLN).2⟩
                · have HF : Hid ((typF s.data.toList).map fldP = acc) := hide (by rw [unhide HE, parsL_no hcur]; simp)
                  have hm := unhide HM
                  have HR := hide (rowF_of_own (l := acc) (by rw [hm]; exact hown) (by omega) (unhide HFT))
                  obtain ⟨ay, cy, rfl⟩ := own_formH hown
                  have hBz : (bts cur).size ≤ 4194304 := by omega
                  clear HE HFT hown HM hm
                  cases hcc : cur with
                  | nil =>
                    rw [decide_eq_true hcc] at hem
                    have hcb : bts ([] : List UInt8) = ⟨#[]⟩ := rfl
                    rw [hcc] at hem
                    clear hcur hcc hzc hBz
                    go_wp2
                    go_ret2
                    exact ⟨_, by rw [(unhide HYES).1]; rfl, by rw [unhide HF]; exact unhide HR, unhide HB⟩
                  | cons c ct =>
                    rw [decide_eq_false (by rw [hcc]; simp : ¬ cur = [])] at hem
                    obtain ⟨gp, gq⟩ := bts_first hcc
                    have gp' : (0 : Int) < ((bts cur).size : Int) := by omega
                    have gb : ¬ ((bts cur)[0].toNat : Int) = 59 := fun e => hcur (by
                      rw [hcc, List.head?_cons]
                      rw [gq] at e
                      rw [show c = 59 from UInt8.toNat_inj.mp (by have : (59 : UInt8).toNat = 59 := rfl; omega)])
                    clear hzc gq hcur
                    rw [← hcc]
                    generalize bts cur = BC at gp gp' gb hem hBz ⊢
                    clear hcc
                    go_wp2
                    go_ret2
                    exact ⟨_, by rw [(unhide HYES).1]; rfl, by rw [unhide HF]; exact unhide HR, unhide HB⟩
            · rw [decide_eq_false hye] at hee
              have hno : ¬ isTypL kd = true := by
                intro h
                rw [hJ, hti] at h
                exact hye h.2
              have HNO : Hid (typK s.data.toList = plainT ∧ typF s.data.toList = []) := hide (by
                have h := unhide HTI
                unfold TypIs at h
                rw [if_neg hno, if_neg hno] at h
                exact h)
              clear hno
              clear hm0 hye
              clear HSP HJN h0 hJ hti hc2 hnle hkz hmle hyz hl2z
              go_wp2_with fail
              refine (unhide HTR _).mono ?_
              rintro e wt ⟨rfl, ht⟩
              have ht2 := ht.symm
              subst ht2
              clear ht
              clear HTR
              go_wp2_with fail
              refine (unhide HSM _).mono ?_
              rintro e w2 ⟨rfl, b2⟩
              have HB2 := hide (belows' (unhide HB1) b2)
              clear HSM HB1 b2
              go_wp2_with fail
              refine (unhide HTK _).mono ?_
              rintro e w3 ⟨rfl, b3⟩
              have HB3 := hide (belows' (unhide HB2) b3)
              clear HTK HB2 b3
              go_wp2_with fail
              refine (unhide HT2 _).mono ?_
              rintro e w4 ⟨rfl, b4⟩
              have HB4 := hide (belows' (unhide HB3) b4)
              clear HT2 HB3 b4
              go_wp2
              go_ret2
              exact ⟨_, by rw [(unhide HNO).1]; rfl, by rw [(unhide HNO).2]; exact rowF_nil _, unhide HB4⟩
        · have hpb : ¬ ((bts l2)[0].toNat : Int) = 47 := fun e => hc (by rw [← hp3]; exact UInt8.toNat_inj.mp (by have : (47 : UInt8).toNat = 47 := rfl; omega))
          have hpb2 : (((bts l2)[0].toNat : Int) != 47) = true := by simpa using hpb
          have hno : ¬ isTypL kd = true := by
            intro h
            obtain ⟨_, y2, hy, _⟩ := unhide HSP h
            rw [hc2] at hy
            injection hy with h1 _
            exact hc h1
          have HNO : Hid (typK s.data.toList = plainT ∧ typF s.data.toList = []) := hide (by
            have h := unhide HTI
            unfold TypIs at h
            rw [if_neg hno, if_neg hno] at h
            exact h)
          clear hno
          have k2 : (bts l2).size ≤ 4194304 := by omega
          clear hp3
          generalize bts l2 = L2 at HTK he2 hp2 hp2' hp2'' hpb hpb2 hz2
          clear HSP HJN h0 hz2 hnle hc2 hc hkz hl2z
          go_wp2_with fail
          refine (unhide HTR _).mono ?_
          rintro e wt ⟨rfl, ht⟩
          have ht2 := ht.symm
          subst ht2
          clear ht
          clear HTR
          go_wp2_with fail
          refine (unhide HSM _).mono ?_
          rintro e w2 ⟨rfl, b2⟩
          have HB2 := hide (belows' (unhide HB1) b2)
          clear HSM HB1 b2
          go_wp2_with fail
          refine (unhide HTK _).mono ?_
          rintro e w3 ⟨rfl, b3⟩
          have HB3 := hide (belows' (unhide HB2) b3)
          clear HTK HB2 b3
          go_wp2
          go_ret2
          exact ⟨_, by rw [(unhide HNO).1]; rfl, by rw [(unhide HNO).2]; exact rowF_nil _, unhide HB3⟩
end Go.Proofs.YtedpimhhbajljaaGreatDoor
