/-
  What mime's readParam does, over this seat's program.
-/
import Derived.Test.YtedpimhhbajljaaGreatDoorMmc
import Derived.Test.YtedpimhhbajljaaGreatDoorRwg
import Derived.Shelf.Strings.SlTrimAscii
set_option linter.unusedVariables false
set_option linter.unusedSimpArgs false
namespace Go.Proofs.YtedpimhhbajljaaGreatDoor
open Go.RowKit Go.Proofs.Hed Go.Shelf Go.Lib

theorem trimLeftM_any (s : ByteArray) (w : World) :
    Calls Tryz.prog 63 #[.string s, .string ⟨#[32, 9]⟩] w fun e w' => e = .returned (.string (bts (s.data.toList.dropWhile blM))) ∧ Below w.heap.size w w' :=
  Any.strings_TrimLeft_laid Tryz.lays161 (by kernel_rfl) s ⟨#[32, 9]⟩ w (by decide) (ascii_of_all (by decide))
theorem dropM_len (l : List UInt8) : (l.dropWhile blM).length ≤ l.length := (List.dropWhile_sublist (p := blM) (l := l)).length_le
theorem rv_form (l : List UInt8) : ∃ x y : ByteArray, rvV l = .tuple #[.string x, .string y, .bool (valM l).isSome] ∧ ∀ v r, valM l = some (v, r) → x = bts v ∧ y = bts r := by
  unfold rvV valM
  by_cases h : l.head? = some 34
  · rw [if_pos h, if_pos h]
    cases hq : qdF false [] l.tail with
    | none => exact ⟨⟨#[]⟩, ⟨#[]⟩, rfl, fun v r h => by simp at h⟩
    | some p => obtain ⟨v, r⟩ := p; exact ⟨bts v, bts r, rfl, fun v' r' h => by injection h with h; injection h with h1 h2; subst h1 h2; exact ⟨rfl, rfl⟩⟩
  · rw [if_neg h, if_neg h]
    by_cases h0 : tokN l = 0
    · rw [if_pos h0, h0]
      exact ⟨_, _, rfl, fun v r h => by simp at h⟩
    · rw [if_neg h0]
      refine ⟨_, _, ?_, fun v r h => by injection h with h; injection h with h1 h2; subst h1 h2; exact ⟨rfl, rfl⟩⟩
      rw [decide_eq_true (by omega)]
      rfl
theorem val_len {l v r : List UInt8} (h : valM l = some (v, r)) : v.length + r.length ≤ l.length := by
  unfold valM at h
  split at h
  · have := qdF_len _ _ _ _ _ h
    simp only [List.length_nil, Nat.zero_add, List.length_tail] at this
    omega
  · split at h
    · cases h
    · injection h with h; injection h with h1 h2; subst h1 h2
      rw [List.length_take, List.length_drop]; omega
/-- What readParam tells. -/
def parV (r : Option ((List UInt8 × List UInt8) × List UInt8)) : Value := match r with
  | none => .tuple #[.agg #[.string ⟨#[]⟩, .string ⟨#[]⟩], .string ⟨#[]⟩, .bool false]
  | some ((n, v), t) => .tuple #[.agg #[.string (bts n), .string (bts v)], .string (bts t), .bool true]

set_option maxHeartbeats 4000000 in
set_option maxRecDepth 100000 in
theorem readParam_any (s : ByteArray) (w : World) (hs : s.size ≤ 1099511627776) :
    Calls Tryz.prog 40 #[.string s] w fun e w' => e = .returned (parV (parM s.data.toList)) ∧ Below w.heap.size w w' := by
  have hsl := sizeL s
  have HT1 := hide (fun W => trimLeftM_any s W)
  have hl1 := dropM_len s.data.toList
  unfold parM
  generalize s.data.toList.dropWhile blM = l1 at HT1 hl1 ⊢
  have hz1 : (bts l1).size = l1.length := size_bts _
  have HTK := hide (fun W => tokenSize_any (bts l1) W (by omega))
  rw [toList_bts] at HTK
  have htn := tokN_le l1
  obtain ⟨n, hn⟩ : ∃ n, tokN l1 = n := ⟨_, rfl⟩
  rw [hn] at HTK htn ⊢
  have HU := fun W => slice_upto (bts l1) (n : Int) n rfl (by omega) W
  have HV := fun W => slice_from (bts l1) (n : Int) n rfl (by omega) W
  have HT2 := hide (fun W => trimLeftM_any ((bts l1).extract n (bts l1).size) W)
  rw [toList_from, toList_bts] at HT2
  have hl2 := dropM_len (l1.drop n)
  generalize hl2e : (l1.drop n).dropWhile blM = l2 at HT2 hl2 ⊢
  rw [List.length_drop] at hl2
  have HCP := hide (fun W => cutPrefix_any (bts l2) 61 W (by rw [size_bts]; omega))
  rw [show bts [61] = ⟨#[61]⟩ from rfl, toList_bts] at HCP
  have e1 : bts (l1.take n) = (bts l1).extract 0 n := by apply ext_list; rw [toList_bts, toList_upto, toList_bts]
  have hnsz : ((bts l1).extract 0 n).size = n := by rw [size_part _ 0 n (by omega)]; omega
  have HCL := hide (fun W => cloneS_any ((bts l1).extract 0 n) W (by omega))
  rw [← e1] at HCL
  have hb0 : Below w.heap.size w (w.alloc (Obj.cells #[.string ⟨#[]⟩, .string ⟨#[]⟩] 40)) := (Below.refl _ w).alloc (Nat.le_refl _) _
  have Z := hide (Blk.new w 40 #[.string ⟨#[]⟩, .string ⟨#[]⟩])
  have B := hide hb0
  clear hn hl2e hb0
  by_cases h0 : n = 0
  · rw [if_pos (.inl h0)]
    have hem : ((bts l1).extract 0 n).toList.isEmpty = true := by rw [empty_size, hnsz]; simpa using h0
    generalize (bts l1).extract 0 n = nm at HU hem hnsz
    clear h0 HCL e1 hnsz
    generalize (if l2.head? = some 61 then (bts l2).extract 1 (bts l2).size else bts l2) = y3 at HCP
    generalize decide (l2.head? = some 61) = y4 at HCP
    go_enter Tryz.func40, Tryz.ntmps40
    go_wp2_with fail
    refine (unhide HT1 _).mono ?_
    rintro e w1 ⟨rfl, b1⟩
    have ZN := hide ((unhide Z).below b1)
    have BN := hide (belows' (unhide B) b1)
    clear Z B
    have Z := ZN
    have B := BN
    clear ZN BN b1
    clear HT1
    go_wp2_with fail
    refine (unhide HTK _).mono ?_
    rintro e wt ⟨rfl, ht⟩
    subst ht
    clear HTK
    go_wp2_with fail
    refine (unhide HT2 _).mono ?_
    rintro e w2 ⟨rfl, b2⟩
    have ZN := hide ((unhide Z).below b2)
    have BN := hide (belows' (unhide B) b2)
    clear Z B
    have Z := ZN
    have B := BN
    clear ZN BN b2
    clear HT2
    go_wp2_with fail
    refine (unhide HCP _).mono ?_
    rintro e wc ⟨rfl, hc⟩
    subst hc
    clear HCP
    have e0 := (unhide Z).cell 0
    have e1 := (unhide Z).cell 1
    simp only [List.getElem?_toArray, List.getElem?_cons_succ, List.getElem?_cons_zero] at e0 e1
    have f0 := (unhide Z).frozen 0
    have f1 := (unhide Z).frozen 1
    have RB := hide (((unhide B).setCell (p := ⟨w.heap.size, 0, none⟩) (Nat.le_refl _) (.string ⟨#[]⟩)).setCell (p := ⟨w.heap.size, 1, none⟩) (Nat.le_refl _) (.string ⟨#[]⟩))
    go_wp2
    (try simp only [Exit.inBlock, Exit.then])
    refine bodyPost_ret (v := .tuple #[.agg #[.string ⟨#[]⟩, .string ⟨#[]⟩], .string ⟨#[]⟩, .bool false]) ?_ rfl ⟨rfl, unhide RB⟩
    rw [results_cell_tmp2 rfl]
    go_simp
  · have hem : ((bts l1).extract 0 n).toList.isEmpty = false := by rw [empty_size, hnsz]; simpa using h0
    by_cases h1 : l2.head? = some 61
    · rw [if_neg (by simp [h0, h1])]
      rw [if_pos h1, decide_eq_true h1] at HCP
      have hta : ((bts l2).extract 1 (bts l2).size).data.toList = l2.tail := by rw [toList_from, toList_bts]; simp
      have HT3 := hide (fun W => trimLeftM_any ((bts l2).extract 1 (bts l2).size) W)
      rw [hta] at HT3
      have hl3 := dropM_len l2.tail
      rw [List.length_tail] at hl3
      generalize l2.tail.dropWhile blM = l3 at HT3 hl3 ⊢
      generalize (bts l2).extract 1 (bts l2).size = y3 at HCP HT3
      clear hta h1 h0
      have HRV := hide (fun W => readValue_any (bts l3) W (by rw [size_bts]; omega))
      rw [toList_bts] at HRV
      obtain ⟨x, y, hrv, hxy⟩ := rv_form l3
      rw [hrv] at HRV
      clear hrv
      cases hv : valM l3 with
      | none =>
        rw [hv] at HRV
        simp only [Option.isSome] at HRV ⊢
        generalize (bts l1).extract 0 n = nm at HU hem hnsz e1
        clear hxy hv HCL e1 hnsz
        go_enter Tryz.func40, Tryz.ntmps40
        go_wp2_with fail
        refine (unhide HT1 _).mono ?_
        rintro e w1 ⟨rfl, b1⟩
        have ZN := hide ((unhide Z).below b1)
        have BN := hide (belows' (unhide B) b1)
        clear Z B
        have Z := ZN
        have B := BN
        clear ZN BN b1
        clear HT1
        go_wp2_with fail
        refine (unhide HTK _).mono ?_
        rintro e wt ⟨rfl, ht⟩
        subst ht
        clear HTK
        go_wp2_with fail
        refine (unhide HT2 _).mono ?_
        rintro e w2 ⟨rfl, b2⟩
        have ZN := hide ((unhide Z).below b2)
        have BN := hide (belows' (unhide B) b2)
        clear Z B
        have Z := ZN
        have B := BN
        clear ZN BN b2
        clear HT2
        go_wp2_with fail
        refine (unhide HCP _).mono ?_
        rintro e wc ⟨rfl, hc⟩
        subst hc
        clear HCP
        go_wp2_with fail
        refine (unhide HT3 _).mono ?_
        rintro e w3 ⟨rfl, b3⟩
        have ZN := hide ((unhide Z).below b3)
        have BN := hide (belows' (unhide B) b3)
        clear Z B
        have Z := ZN
        have B := BN
        clear ZN BN b3
        clear HT3
        go_wp2_with fail
        refine (unhide HRV _).mono ?_
        rintro e w4 ⟨rfl, b4⟩
        have ZN := hide ((unhide Z).below b4)
        have BN := hide (belows' (unhide B) b4)
        clear Z B
        have Z := ZN
        have B := BN
        clear ZN BN b4
        clear HRV
        have e0 := (unhide Z).cell 0
        have e1 := (unhide Z).cell 1
        simp only [List.getElem?_toArray, List.getElem?_cons_succ, List.getElem?_cons_zero] at e0 e1
        have f0 := (unhide Z).frozen 0
        have f1 := (unhide Z).frozen 1
        have RB := hide (((unhide B).setCell (p := ⟨w.heap.size, 0, none⟩) (Nat.le_refl _) (.string ⟨#[]⟩)).setCell (p := ⟨w.heap.size, 1, none⟩) (Nat.le_refl _) (.string ⟨#[]⟩))
        go_wp2
        (try simp only [Exit.inBlock, Exit.then])
        refine bodyPost_ret (v := .tuple #[.agg #[.string ⟨#[]⟩, .string ⟨#[]⟩], .string ⟨#[]⟩, .bool false]) ?_ rfl ⟨rfl, unhide RB⟩
        rw [results_cell_tmp2 rfl]
        go_simp
      | some p =>
        obtain ⟨v, r⟩ := p
        rw [hv] at HRV
        obtain ⟨rfl, rfl⟩ := hxy v r hv
        simp only [Option.isSome] at HRV ⊢
        have HT4 := hide (fun W => trimLeftM_any (bts r) W)
        rw [toList_bts] at HT4
        rw [e1] at HCL
        have HE1 := hide e1
        clear hxy hv e1
        generalize (bts l1).extract 0 n = nm at HU hem hnsz HCL HE1
        go_enter Tryz.func40, Tryz.ntmps40
        go_wp2_with fail
        refine (unhide HT1 _).mono ?_
        rintro e w1 ⟨rfl, b1⟩
        have ZN := hide ((unhide Z).below b1)
        have BN := hide (belows' (unhide B) b1)
        clear Z B
        have Z := ZN
        have B := BN
        clear ZN BN b1
        clear HT1
        go_wp2_with fail
        refine (unhide HTK _).mono ?_
        rintro e wt ⟨rfl, ht⟩
        subst ht
        clear HTK
        go_wp2_with fail
        refine (unhide HT2 _).mono ?_
        rintro e w2 ⟨rfl, b2⟩
        have ZN := hide ((unhide Z).below b2)
        have BN := hide (belows' (unhide B) b2)
        clear Z B
        have Z := ZN
        have B := BN
        clear ZN BN b2
        clear HT2
        go_wp2_with fail
        refine (unhide HCP _).mono ?_
        rintro e wc ⟨rfl, hc⟩
        subst hc
        clear HCP
        go_wp2_with fail
        refine (unhide HT3 _).mono ?_
        rintro e w3 ⟨rfl, b3⟩
        have ZN := hide ((unhide Z).below b3)
        have BN := hide (belows' (unhide B) b3)
        clear Z B
        have Z := ZN
        have B := BN
        clear ZN BN b3
        clear HT3
        go_wp2_with fail
        refine (unhide HRV _).mono ?_
        rintro e w4 ⟨rfl, b4⟩
        have ZN := hide ((unhide Z).below b4)
        have BN := hide (belows' (unhide B) b4)
        clear Z B
        have Z := ZN
        have B := BN
        clear ZN BN b4
        clear HRV
        go_wp2_with fail
        refine (unhide HCL _).mono ?_
        rintro e w5 ⟨rfl, b5⟩
        have ZN := hide ((unhide Z).below b5)
        have BN := hide (belows' (unhide B) b5)
        clear Z B
        have Z := ZN
        have B := BN
        clear ZN BN b5
        clear HCL
        go_wp2_with fail
        refine (unhide HT4 _).mono ?_
        rintro e w6 ⟨rfl, b6⟩
        have ZN := hide ((unhide Z).below b6)
        have BN := hide (belows' (unhide B) b6)
        clear Z B
        have Z := ZN
        have B := BN
        clear ZN BN b6
        clear HT4
        have e0 := (unhide Z).cell 0
        have e1 := (unhide Z).cell 1
        simp only [List.getElem?_toArray, List.getElem?_cons_succ, List.getElem?_cons_zero] at e0 e1
        have f0 := (unhide Z).frozen 0
        have f1 := (unhide Z).frozen 1
        have RB := hide (((unhide B).setCell (p := ⟨w.heap.size, 0, none⟩) (Nat.le_refl _) (.string nm)).setCell (p := ⟨w.heap.size, 1, none⟩) (Nat.le_refl _) (.string (bts v)))
        go_wp2
        (try simp only [Exit.inBlock, Exit.then])
        refine bodyPost_ret (v := .tuple #[.agg #[.string nm, .string (bts v)], .string (bts (r.dropWhile blM)), .bool true]) ?_ rfl ⟨by rw [← unhide HE1]; rfl, unhide RB⟩
        rw [results_cell_tmp2 rfl]
        go_simp
    · rw [if_pos (.inr h1)]
      rw [if_neg h1, decide_eq_false h1] at HCP
      generalize (bts l1).extract 0 n = nm at HU hem hnsz e1
      clear h0 h1 HCL e1 hnsz
      go_enter Tryz.func40, Tryz.ntmps40
      go_wp2_with fail
      refine (unhide HT1 _).mono ?_
      rintro e w1 ⟨rfl, b1⟩
      have ZN := hide ((unhide Z).below b1)
      have BN := hide (belows' (unhide B) b1)
      clear Z B
      have Z := ZN
      have B := BN
      clear ZN BN b1
      clear HT1
      go_wp2_with fail
      refine (unhide HTK _).mono ?_
      rintro e wt ⟨rfl, ht⟩
      subst ht
      clear HTK
      go_wp2_with fail
      refine (unhide HT2 _).mono ?_
      rintro e w2 ⟨rfl, b2⟩
      have ZN := hide ((unhide Z).below b2)
      have BN := hide (belows' (unhide B) b2)
      clear Z B
      have Z := ZN
      have B := BN
      clear ZN BN b2
      clear HT2
      go_wp2_with fail
      refine (unhide HCP _).mono ?_
      rintro e wc ⟨rfl, hc⟩
      subst hc
      clear HCP
      have e0 := (unhide Z).cell 0
      have e1 := (unhide Z).cell 1
      simp only [List.getElem?_toArray, List.getElem?_cons_succ, List.getElem?_cons_zero] at e0 e1
      have f0 := (unhide Z).frozen 0
      have f1 := (unhide Z).frozen 1
      have RB := hide (((unhide B).setCell (p := ⟨w.heap.size, 0, none⟩) (Nat.le_refl _) (.string ⟨#[]⟩)).setCell (p := ⟨w.heap.size, 1, none⟩) (Nat.le_refl _) (.string ⟨#[]⟩))
      go_wp2
      (try simp only [Exit.inBlock, Exit.then])
      refine bodyPost_ret (v := .tuple #[.agg #[.string ⟨#[]⟩, .string ⟨#[]⟩], .string ⟨#[]⟩, .bool false]) ?_ rfl ⟨rfl, unhide RB⟩
      rw [results_cell_tmp2 rfl]
      go_simp
end Go.Proofs.YtedpimhhbajljaaGreatDoor
