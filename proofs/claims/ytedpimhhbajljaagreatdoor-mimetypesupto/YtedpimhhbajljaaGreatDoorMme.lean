/-
  What mime's readParams does, over this seat's program.
-/
import Derived.Test.YtedpimhhbajljaaGreatDoorMmd
import Derived.Test.YtedpimhhbajljaaGreatDoorHpb
set_option linter.unusedVariables false
set_option linter.unusedSimpArgs false
namespace Go.Proofs.YtedpimhhbajljaaGreatDoor
open Go.RowKit Go.Proofs.Hed

def strZ : Value → Nat
  | .string s => s.size
  | _ => 0
def fldP (p : List UInt8 × List UInt8) : Fld := (bts p.1, bts p.2)
theorem par_len {l n v r : List UInt8} (h : parM l = some ((n, v), r)) : n.length + v.length + r.length ≤ l.length := by
  unfold parM at h
  split at h
  · cases h
  · cases hv : valM ((((l.dropWhile blM).drop (tokN (l.dropWhile blM))).dropWhile blM).tail.dropWhile blM) with
    | none => rw [hv] at h; cases h
    | some p =>
      obtain ⟨x, y⟩ := p
      rw [hv] at h
      injection h with h
      injection h with h1 h2
      injection h1 with h3 h4
      subst h2 h3 h4
      have a1 := dropM_len l
      have a2 := tokN_le (l.dropWhile blM)
      have a3 := dropM_len ((l.dropWhile blM).drop (tokN (l.dropWhile blM)))
      have a4 := dropM_len (((l.dropWhile blM).drop (tokN (l.dropWhile blM))).dropWhile blM).tail
      have a5 := val_len hv
      have a6 := dropM_len y
      rw [List.length_drop] at a3
      rw [List.length_tail] at a4
      rw [List.length_take]
      omega
theorem parsF_more : ∀ (f g : Nat) (l : List UInt8), l.length ≤ f → l.length ≤ g → parsF f l = parsF g l
  | 0, 0, l, _, _ => rfl
  | 0, g + 1, l, h, _ => by
    have : l = [] := List.eq_nil_of_length_eq_zero (by omega)
    subst this; rfl
  | f + 1, 0, l, _, h => by
    have : l = [] := List.eq_nil_of_length_eq_zero (by omega)
    subst this; rfl
  | f + 1, g + 1, l, h1, h2 => by
    unfold parsF
    split
    · rename_i hh
      have hl : 1 ≤ l.length := by cases l with | nil => simp at hh | cons => simp
      cases hp : parM l.tail with
      | none => rfl
      | some p =>
        obtain ⟨⟨n, v⟩, r⟩ := p
        have := par_len hp
        rw [List.length_tail] at this
        simp only
        rw [parsF_more f g r (by omega) (by omega)]
    · rfl
theorem own_formH {w : World} {B : Nat} {e : TypeId} {size : Nat} {v : Value} {n : Nat} {xs : List Value} (h : w.ownsRow B e size v n xs) : ∃ a cap, v = .slice a n cap := by
  rcases h.2 with ⟨rfl, rfl⟩ | ⟨g, cap, cur, rfl, _⟩
  · exact ⟨_, _, rfl⟩
  · exact ⟨_, _, rfl⟩
def parsL (l : List UInt8) : List (List UInt8 × List UInt8) := parsF l.length l
theorem parsL_no {l : List UInt8} (h : l.head? ≠ some 59) : parsL l = [] := by
  unfold parsL
  cases l with
  | nil => rfl
  | cons c r => rw [List.length_cons, parsF, if_neg h]
theorem parsL_none {l : List UInt8} (h : l.head? = some 59) (hp : parM l.tail = none) : parsL l = [] := by
  unfold parsL
  cases l with
  | nil => simp at h
  | cons c r => rw [List.length_cons, parsF, if_pos h, hp]
theorem parsL_some {l n v r : List UInt8} (h : l.head? = some 59) (hp : parM l.tail = some ((n, v), r)) : parsL l = (n, v) :: parsL r := by
  unfold parsL
  cases l with
  | nil => simp at h
  | cons c t =>
    rw [List.length_cons, parsF, if_pos h, hp]
    have := par_len hp
    rw [List.length_tail, List.length_cons] at this
    simp only
    rw [parsF_more t.length r.length r (by omega) (Nat.le_refl _)]
theorem fieldInfoM : (Tryz.prog.info? 40).map (fun i => (i.zero, i.size, i.bytes)) = some (some (.agg #[.string ByteArray.empty, .string ByteArray.empty]), 2, 32) := by kernel_rfl

set_option maxHeartbeats 4000000 in
set_option maxRecDepth 100000 in
theorem readParams_any (s : ByteArray) (w : World) (hs : s.size ≤ 4194304) :
    Calls Tryz.prog 15 #[.string s] w fun e w' => ∃ v, e = .returned v ∧ (RowF w' v ((parsL s.data.toList).map fldP) ∧ w'.ownsRow w.heap.size 40 2 v ((parsL s.data.toList).map fldP).length (flatF ((parsL s.data.toList).map fldP))) ∧ Below w.heap.size w w' := by
  obtain ⟨i0, hi, hz0, hz1, hz2⟩ := info_parts fieldInfoM
  have hsl := sizeL s
  obtain ⟨L, hL⟩ : ∃ L, parsL s.data.toList = L := ⟨_, rfl⟩
  have HL0 := hide hL
  rw [hL]
  clear hL
  go_enter Tryz.func15, Tryz.ntmps15
  go_wp2
  go_loopw [0, 3, 4, 5, 6, 7, 8] (fun x y a b c d e wr => ∃ (cur : List UInt8) (acc : List Fld) (m : Nat), x = .string (bts cur) ∧ cur.length + m ≤ s.size ∧ Hid (acc.length = m) ∧ Hid (L.map fldP = acc ++ (parsL cur).map fldP) ∧ Hid (∀ f ∈ acc, Fits f) ∧ wr.ownsRow w.heap.size 40 2 y m (flatF acc) ∧ Hid (Below w.heap.size w wr)) (fun x _ _ _ _ _ _ _ => strZ x)
  case atStart => exact ⟨s.data.toList, [], 0, by rw [bts_toList], by omega, hide rfl, hide (by rw [unhide HL0]; rfl), hide (by simp), ⟨by simp [flatF], Or.inl ⟨rfl, rfl⟩⟩, hide (Below.refl _ _)⟩
  case round =>
    obtain ⟨cur, acc, m, rfl, hcl, HM, HE, HFT, hown, HB⟩ := hrel
    have hbs := (unhide HB).size
    have hzc : (bts cur).size = cur.length := size_bts _
    have HCP := hide (fun W => cutPrefix_any (bts cur) 59 W (by omega))
    rw [show bts [59] = ⟨#[59]⟩ from rfl, toList_bts] at HCP
    by_cases h : cur.head? = some 59
    · rw [if_pos h, decide_eq_true h] at HCP
      have hta : ((bts cur).extract 1 (bts cur).size).data.toList = cur.tail := by rw [toList_from, toList_bts]; simp
      have hc1 : 1 ≤ cur.length := by cases cur with | nil => simp at h | cons => simp
      have HRP := hide (fun W => readParam_any ((bts cur).extract 1 (bts cur).size) W (by rw [← sizeL, hta, List.length_tail]; omega))
      rw [hta] at HRP
      generalize (bts cur).extract 1 (bts cur).size = z at HCP HRP
      clear hta
      cases hp : parM cur.tail with
      | none =>
        have HF : Hid (L.map fldP = acc) := hide (by rw [unhide HE, parsL_none h hp]; simp)
        rw [hp] at HRP
        simp only [parV] at HRP
        have hm := unhide HM
        have HR := hide (rowF_of_own (l := acc) (by rw [hm]; exact hown) (by omega) (unhide HFT))
        have HO := hide (show wr.ownsRow w.heap.size 40 2 u3 acc.length (flatF acc) by rw [hm]; exact hown)
        obtain ⟨ay, cy, rfl⟩ := own_formH hown
        clear h hp HE HFT hown HM
        go_wp2_with fail
        refine (unhide HCP _).mono ?_
        rintro e wc ⟨rfl, hc⟩
        subst hc
        go_wp2_with fail
        refine (unhide HRP _).mono ?_
        rintro e w2 ⟨rfl, b2⟩
        have hal : Below w2.heap.size w2 (w2.alloc (Obj.cells #[.string ⟨#[]⟩, .string ⟨#[]⟩] 40)) := (Below.refl _ _).alloc (Nat.le_refl _) _
        have HR2 := hide (((unhide HR).below b2).below hal)
        have HO2 := hide (own_below (own_below (unhide HO) b2) hal)
        have HB2 := hide (belows' (belows' (unhide HB) b2) hal)
        clear b2 hal HR
        go_wp2
        go_ret
        exact ⟨_, rfl, by rw [unhide HF]; exact ⟨unhide HR2, unhide HO2⟩, unhide HB2⟩
      | some p =>
        obtain ⟨⟨n, v⟩, r⟩ := p
        have hpl := par_len hp
        rw [List.length_tail] at hpl
        have hzn : (bts n).size = n.length := size_bts _
        have hzv : (bts v).size = v.length := size_bts _
        have HE2 : Hid (L.map fldP = (acc ++ [(bts n, bts v)]) ++ (parsL r).map fldP) := hide (by rw [unhide HE, parsL_some h hp]; simp [fldP])
        have HFT2 : Hid (∀ f ∈ acc ++ [(bts n, bts v)], Fits f) := hide (fun f hf => by
          rcases List.mem_append.1 hf with h1 | h1
          · exact unhide HFT f h1
          · rw [List.mem_singleton] at h1
            rw [h1]
            exact ⟨by show (bts n).size ≤ _; omega, by show (bts v).size ≤ _; omega⟩)
        have HNX : Hid (flatF acc ++ [.string (bts n), .string (bts v)] = flatF (acc ++ [(bts n, bts v)]) ∧ (acc ++ [(bts n, bts v)]).length = m + 1) := hide ⟨by rw [flatF_append]; simp [flatF, cellsF], by rw [List.length_append, unhide HM]; rfl⟩
        rw [hp] at HRP
        simp only [parV] at HRP
        clear h hp HE HFT HM hzn hzv
        generalize bts n = nb at HRP HE2 HFT2 HNX
        generalize bts v = vb at HRP HE2 HFT2 HNX
        go_wp2_with fail
        refine (unhide HCP _).mono ?_
        rintro e wc ⟨rfl, hc⟩
        subst hc
        go_wp2_with fail
        refine (unhide HRP _).mono ?_
        rintro e w2 ⟨rfl, b2⟩
        have hal : Below w2.heap.size w2 (w2.alloc (Obj.cells #[.string nb, .string vb] 40)) := (Below.refl _ _).alloc (Nat.le_refl _) _
        have hown3 := own_below (own_below hown b2) hal
        have hba := belows' (belows' (unhide HB) b2) hal
        have hss := hba.size
        have HBA := hide hba
        clear b2 hal hown hba
        go_wp2_with (at_builtin; refine wpList_append_own _ rfl _ _ 22 rfl w.heap.size 40 i0 (.agg #[.string ByteArray.empty, .string ByteArray.empty]) 2 32 Tryz.underlying22 hi hz0 hz1 hz2 rfl (by decide) _ _ _ rfl (hown3.alloc _) ⟨w2.heap.size + 1, 0, none⟩ 1 1 [.string nb, .string vb] rfl rfl ?c1 ?c2 ?c3 ?c4 ?c5 ?_)
        case c1 =>
          intro j u hj
          rw [Addr.add_lit, Nat.zero_add]
          have := (Blk.new (w2.alloc (Obj.cells #[.string nb, .string vb] 40)) 40 #[.string nb, .string vb]).cell j
          simp only [World.size_alloc] at this
          rw [this]
          simpa using hj
        case c2 => intro u hu; simp at hu; rcases hu with rfl | rfl <;> rfl
        case c3 => unfold maxLen; omega
        case c4 => omega
        case c5 => have := hss; simp at this ⊢; omega
        intro v' w4 hown' hgrow _
        have hb4 : Below w.heap.size w w4 := ((unhide HBA).alloc hss _).grown hgrow (by have := hss; simp at this ⊢; omega) (fun g hg => (hown3.lt g hg).1)
        rw [(unhide HNX).1] at hown'
        have O4 := hide hown'
        have B4 := hide hb4
        clear hown' hb4 hown3 hgrow HBA
        go_wp2
        exact ⟨⟨r, acc ++ [(nb, vb)], m + 1, rfl, by omega, hide (unhide HNX).2, HE2, HFT2, unhide O4, B4⟩, by show (bts r).size < (bts cur).size; rw [size_bts, size_bts]; omega⟩
    · rw [if_neg h, decide_eq_false h] at HCP
      have HF : Hid (L.map fldP = acc) := hide (by rw [unhide HE, parsL_no h]; simp)
      have hm := unhide HM
      have HR := hide (rowF_of_own (l := acc) (by rw [hm]; exact hown) (by omega) (unhide HFT))
      have HO := hide (show wr.ownsRow w.heap.size 40 2 u3 acc.length (flatF acc) by rw [hm]; exact hown)
      obtain ⟨ay, cy, rfl⟩ := own_formH hown
      clear h HE HFT hown HM
      go_wp2_with fail
      refine (unhide HCP _).mono ?_
      rintro e wc ⟨rfl, hc⟩
      subst hc
      go_wp2
      go_ret
      exact ⟨_, rfl, by rw [unhide HF]; exact ⟨unhide HR, unhide HO⟩, unhide HB⟩
end Go.Proofs.YtedpimhhbajljaaGreatDoor
