/-
  What missiveref08.Same does, and append of fields, over this seat's program.
-/
import Derived.Test.YtdallfakfhajdaaGreatDoorBnd10
import Derived.Test.YtdallfakfhajdaaGreatDoorBnd12
import Derived.Laws.AppendOwnNone
set_option linter.unusedVariables false
namespace Go.Proofs.YtdallfakfhajdaaGreatDoor
open Go.RowKit Go.Proofs.Hed

theorem takeF_next {l r : List Fld} {k : Nat} (hl : k < l.length) (hr : k < r.length) : l.take (k + 1) = r.take (k + 1) ↔ l.take k = r.take k ∧ l[k] = r[k] := by
  rw [List.take_succ_eq_append_getElem hl, List.take_succ_eq_append_getElem hr]
  constructor
  · intro h
    have := List.append_inj' h rfl
    exact ⟨this.1, by simpa using this.2⟩
  · rintro ⟨h1, h2⟩
    rw [h1, h2]

theorem add_offF (b off j : Nat) : Addr.add ⟨b, off, none⟩ j = ⟨b, off + j, none⟩ := by
  unfold Addr.add
  by_cases h0 : j = 0
  · simp [h0]
  · simp [h0]

/-- The run of an append of fields. -/
theorem run_append_rowF (w : World) (B : Nat) (v : Value) (ad : Addr) (cap : Nat) (k l : List Fld) (ty : TypeId) (hown : w.ownsRow B 39 2 v k.length (flatF k)) (hx : RowF w (.slice (some ad) l.length cap) l) (hkl : k.length + l.length ≤ 4194304) (hB : B ≤ w.heap.size) :
    ∃ v' w', (Builtin.append_ #[40, 40] ty #[v, .slice (some ad) l.length cap]).run Tryz.prog w = .ok v' w' ∧ w'.ownsRow B 39 2 v' (k ++ l).length (flatF (k ++ l)) ∧ Below B w w' := by
  obtain ⟨i0, hi, hz0, hz1, hz2⟩ := info_parts fldInfo
  obtain ⟨a, cap', hv, hlen, hfit, hc⟩ := hx
  have hnews : ∀ j u, (flatF l)[j]? = some u → w.cell? (ad.add j) = some u := by
    intro j u hj
    rcases hc with hc | ⟨b, off, ha, hlt, hc⟩
    · subst hc; simp [flatF] at hj
    · have : some ad = a := by injection hv
      rw [ha] at this
      obtain rfl := Option.some.inj this
      rw [add_offF]
      exact hc j u hj
  obtain ⟨v', w', hrun, h2, h3, h4⟩ := run_append_own (P := Tryz.prog) w B 40 ty 39 i0 (.agg #[.string ByteArray.empty, .string ByteArray.empty]) 2 32 Tryz.underlying40 hi hz0 hz1 hz2 rfl (by decide) v k.length (flatF k) hown ad l.length cap (flatF l) (flatF_length l) hnews (by
    intro u hu
    unfold flatF at hu
    obtain ⟨f, _, hf⟩ := List.mem_flatMap.1 hu
    simp only [cellsF, List.mem_cons, List.not_mem_nil, or_false] at hf
    rcases hf with rfl | rfl <;> rfl) (by unfold maxLen; omega) (by omega) hB
  refine ⟨v', w', hrun, by rw [List.length_append, flatF_append]; exact h2, ?_⟩
  refine ⟨h3.os, h3.tape, h3.output, h3.size, fun i hi' => h3.block i (by omega) ?_⟩
  rcases hown.2 with ⟨rfl, _⟩ | ⟨g, cap, cur, rfl, hg, _⟩
  · simp [Value.ownBlock]
  · simp [Value.ownBlock]; omega

/-- An append whose run is known, guarded or not. -/
theorem wpList_append_runF {P : Program} {w w' : World} {v v' xv : Value} {ty : TypeId} {ops : Array Oper} {rest : List Oper} {o : Oper} {a : Act} {Q : Exit → Act → World → Prop} (hw : Region.wanted o (yielded ops a.tmps) = true) (s x : Operand) (t : TypeId)
    (ho : o.op = .call { callee := .builtin .append, args := #[s, x], argTypes := #[t, t] }) (hty : o.type = ty) (hs : a.eval s = v) (hx : a.eval x = xv)
    (hrun : (Builtin.append_ #[t, t] ty #[v, xv]).run P w = .ok v' w')
    (h : wpList P ops Q rest (a.put o.dst v') w') : wpList P ops Q (o :: rest) a w := by
  refine wpList_step fun K hK => ?_
  rw [if_pos hw]
  subst hty
  unfold Oper.wp
  simp [execOp, ho, resolve, invoke, builtin, hs, hx, hrun, Result.andThen]
  exact hK _ _ h
theorem own_emptyF (w : World) : (w.alloc (.cells #[] 39)).ownsRow w.heap.size 39 2 (.slice (some ⟨w.heap.size, 0, none⟩) 0 0) ([] : List Fld).length (flatF []) :=
  World.ownsRow_lit w #[] 0 (Nat.le_refl _) (by unfold maxLen; omega) rfl

end Go.Proofs.YtdallfakfhajdaaGreatDoor

/-
  The walk of missivelaw08.lives, over this seat's program.
-/
set_option linter.unusedVariables false
namespace Go.Proofs.YtdallfakfhajdaaGreatDoor
open Go.RowKit Go.Proofs.Hed

/-- Fields of bytes. -/
def fld (p : List UInt8 × List UInt8) : Fld := (bts p.1, bts p.2)
theorem fld_lst (f : Fld) : fld (lst f) = f := by
  obtain ⟨a, b⟩ := f
  simp only [fld, lst, bts_toList]
theorem lst_fld (p : List UInt8 × List UInt8) : lst (fld p) = p := by
  obtain ⟨a, b⟩ := p
  simp only [fld, lst, toList_bts]
theorem flds_of {l : List Fld} {L : List (List UInt8 × List UInt8)} (h : l.map lst = L) : l = L.map fld := by
  rw [← h, List.map_map]
  conv => lhs; rw [← List.map_id l]
  apply List.map_congr_left
  intro f _
  exact (fld_lst f).symm
theorem map_fld (L : List (List UInt8 × List UInt8)) : (L.map fld).map lst = L := by
  rw [List.map_map]
  conv => rhs; rw [← List.map_id L]
  apply List.map_congr_left
  intro f _
  exact lst_fld f

/-- A literal's fields. -/
theorem rowF_lit (w : World) (l : List Fld) (cs : Array Value) (hcs : cs.toList = flatF l) (hl : l.length ≤ 4194304) (hf : ∀ f ∈ l, Fits f) : RowF (w.alloc (.cells cs 39)) (.slice (some ⟨w.heap.size, 0, none⟩) l.length l.length) l := by
  refine ⟨_, _, rfl, hl, hf, .inr ⟨w.heap.size, 0, rfl, by simp, fun j u hj => ?_⟩⟩
  rw [Nat.zero_add, World.cell?_alloc_at _ _ _ _ (by simp), ← Array.getElem?_toList, hcs]
  exact hj
theorem rowS_lit (w : World) (l : List ByteArray) (cs : Array Value) (hcs : cs.toList = l.map Value.string) (hl : l.length ≤ 9223372036854775807) (hn : ∀ s ∈ l, s.size ≤ 9223372036854775807) : RowS (w.alloc (.cells cs 9)) (.slice (some ⟨w.heap.size, 0, none⟩) l.length l.length) l := by
  refine ⟨_, _, rfl, hl, hn, .inr ⟨w.heap.size, 0, rfl, by simp, fun j hj => ?_⟩⟩
  rw [Nat.zero_add, World.cell?_alloc_at _ _ _ _ (by simp), ← Array.getElem?_toList, hcs, List.getElem?_map, List.getElem?_eq_getElem hj]
  rfl

def livesF : List (List UInt8 × List UInt8) := [([65], [98, 32, 99]), ([88], [121])]

end Go.Proofs.YtdallfakfhajdaaGreatDoor

/-
  The walk of missivelaw08.HeadBack, over this seat's program.
-/
set_option linter.unusedVariables false
namespace Go.Proofs.YtdallfakfhajdaaGreatDoor
open Go.RowKit Go.Proofs.Hed

/-- What is written, is parsed. -/
theorem write_ok {L : List (List UInt8 × List UInt8)} (h : (writeR L).2 = 0) : L.all okF = true ∧ L.length ≤ 1024 ∧ (writeR L).1 = textL [10] L := by
  unfold writeR at *
  split at h
  · rename_i h1
    split at h
    · rename_i h2
      rw [if_pos h1, if_pos h2]
      exact ⟨h1, h2, rfl⟩
    · cases h
  · cases h
theorem write_not {L : List (List UInt8 × List UInt8)} (h : (writeR L).2 ≠ 0) : (writeR L).1 = [] := by
  unfold writeR at *
  split at h
  · split at h
    · exact absurd rfl h
    · rename_i h1 h2
      rw [if_pos h1, if_neg h2]
  · rename_i h1
    rw [if_neg h1]
theorem flat_le (l : List Fld) : (textL [10] (l.map lst)).length ≤ sumF l + 1 := by
  have := flat_len l
  unfold textL
  simp only [List.length_append, List.length_cons, List.length_nil]
  omega
theorem back_flds {l l' : List Fld} (h : l'.map lst = (l.map lst)) : l' = l := by
  rw [flds_of h, ← flds_of (rfl : l.map lst = l.map lst)]

/-- Bytes that are parsed into fields are no fewer than these. -/
theorem parseF_bulk : ∀ (f : Nat) (s : List UInt8), ((parseF f s).1.map (fun p => p.1.length + p.2.length)).sum ≤ s.length
  | 0, _ => by simp [parseF]
  | f + 1, s => by
    have h1 := lineN_le s
    have h0 := lineOf_len s
    simp only [parseF]
    split
    · simp
    · split
      · simp
      · rename_i n v hc
        split
        · have h2 := parseF_bulk f (s.drop (lineN s + (contL (s.drop (lineN s))).2))
          have h3 := contL_le (s.drop (lineN s))
          have h4 := contL_len (s.drop (lineN s))
          have h5 := colon_len hc
          have h6 := trimL_len (v ++ (contL (s.drop (lineN s))).1)
          rw [List.length_append] at h6
          rw [List.length_drop] at h2 h3
          simp only [List.map_cons, List.sum_cons]
          omega
        · simp
theorem take_sum (f : List UInt8 × List UInt8 → Nat) (n : Nat) : ∀ L : List (List UInt8 × List UInt8), ((L.take n).map f).sum ≤ (L.map f).sum := by
  intro L
  induction L generalizing n with
  | nil => simp
  | cons p r ih =>
    cases n with
    | zero => simp
    | succ n =>
      have := ih n
      simp only [List.take_succ_cons, List.map_cons, List.sum_cons]
      omega
theorem sumF_of (l : List Fld) : sumF l = ((l.map lst).map (fun p => p.1.length + p.2.length)).sum + l.length * 3 := by
  induction l with
  | nil => rfl
  | cons f r ih =>
    have h1 := sizeL f.1
    have h2 := sizeL f.2
    simp only [sumF, List.map_cons, List.sum_cons, List.length_cons, ih, lst, h1, h2]
    omega
theorem parsed_sum {l : List Fld} {s : List UInt8} (h : l.map lst = (parseL s).1.take 1024) : sumF l ≤ s.length + 3072 := by
  have h1 := take_sum (fun p => p.1.length + p.2.length) 1024 (parseL s).1
  have h2 := parseF_bulk (s.length + 1) s
  have h3 := congrArg List.length h
  rw [List.length_map, List.length_take] at h3
  rw [sumF_of, h]
  unfold parseL at h1 ⊢
  omega

end Go.Proofs.YtdallfakfhajdaaGreatDoor
