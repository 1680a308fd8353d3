/-
  What dict.Read does, over this seat's program.
-/
import Derived.Test.YtfjjigcghhohkaaDcp
set_option linter.unusedVariables false
namespace Go.Proofs.Ytfjjigcghhohkaa
open Go.RowKit Go.Proofs.Num Go.Proofs.Dct

/-- An entry as it lies in memory. -/
def entB (e : EntL) : Ent := (e.1, bts e.2)
def FitE (e : Ent) : Prop := e.1 ≤ 18446744073709551615 ∧ e.2.size ≤ 140737488355328
def Fit3 (e : Ent3) : Prop := e.1 ≤ 18446744073709551615 ∧ e.2.1.size ≤ 140737488355328
abbrev RowE := RowG cellsE FitE
abbrev Row3 := RowG cells3 Fit3
/-- What a list of entries is in memory, as lists of bytes. -/
def lstE (e : Ent) : EntL := (e.1, e.2.data.toList)
theorem lst_entB (e : EntL) : lstE (entB e) = e := by simp [lstE, entB, toList_bts]
theorem entB_lst (e : Ent) : entB (lstE e) = e := by simp [lstE, entB, bts_toList]
theorem map_lst_entB (l : List EntL) : (l.map entB).map lstE = l := by
  rw [List.map_map, show lstE ∘ entB = id from funext lst_entB, List.map_id]
theorem map_entB_lst (l : List Ent) : (l.map lstE).map entB = l := by
  rw [List.map_map, show entB ∘ lstE = id from funext entB_lst, List.map_id]

theorem data_le {l : List EntL} {e : EntL} (h : e ∈ l) : e.2.length ≤ (datas l).length := by
  induction l with
  | nil => cases h
  | cons x r ih =>
    rw [datas_cons, List.length_append]
    rcases List.mem_cons.1 h with rfl | h
    · omega
    · have := ih h; omega
theorem fit_read {s : ByteArray} {l : List EntL} {q : Nat} (hs : s.size ≤ 140737488355328) (h : readD s.data.toList = .ok (l, q)) : (∀ e ∈ l, FitE (entB e)) ∧ l.length ≤ 65536 ∧ q ≤ s.size := by
  obtain ⟨h1, h2, h3, h4, h5, h6⟩ := read_ok h
  rw [sizeL] at h2 h5
  refine ⟨fun e he => ⟨(h3 e he).1, ?_⟩, h4, h2⟩
  have := data_le he
  show (bts e.2).size ≤ _
  rw [size_bts]
  omega
theorem row3_of {w : World} {B : Nat} {v : Value} {l : List EntL} (h : w.ownsRow B 82 3 v (l.map ent1).length (flatG cells3 (l.map ent1))) (hl : l.length ≤ 65536) (hf : ∀ e ∈ l, FitE (entB e)) : Row3 w v (l.map ent1) := by
  refine rowG_of_own cells3_len h (by simp; omega) ?_
  intro x hx
  obtain ⟨e, he, rfl⟩ := List.mem_map.1 hx
  exact hf e he

/-- What open answers, as a row. -/
theorem open_row (s : ByteArray) (w : World) (hs : s.size ≤ 140737488355328) :
    Calls Try.prog 29 #[.string s] w fun e w' => (∃ c : Nat, readD s.data.toList = .error c ∧ c ≠ 0 ∧ e = .returned (.tuple #[.slice none 0 0, .int .i64 0, .int .i64 (c : Int)]) ∧ Below w.heap.size w w')
      ∨ (∃ v l, ∃ q : Nat, readD s.data.toList = .ok (l, q) ∧ e = .returned (.tuple #[v, .int .i64 (q : Int), .int .i64 0]) ∧ Row3 w' v (l.map ent1) ∧ Below w.heap.size w w') := by
  refine (open_any s w hs).mono ?_
  rintro e w' ⟨v, p, c, rfl, h, hb⟩
  unfold OpI at h
  cases hE : readD s.data.toList with
  | error x =>
    rw [hE] at h
    obtain ⟨rfl, rfl, rfl⟩ := h
    exact Or.inl ⟨c, rfl, readD_err_code hE, rfl, hb⟩
  | ok x =>
    obtain ⟨l, q⟩ := x
    rw [hE] at h
    obtain ⟨h1, rfl, rfl⟩ := h
    obtain ⟨a1, a2, a3⟩ := fit_read hs hE
    exact Or.inr ⟨v, l, p, rfl, rfl, row3_of h1 a2 a1, hb⟩

theorem flat_next (l : List EntL) (k : Nat) (h : k < l.length) : flatG cellsE ((l.map entB).take (k + 1)) = flatG cellsE ((l.map entB).take k) ++ [.int .u64 ((l[k]).1 : Int), .string (bts (l[k]).2)] := by
  rw [List.take_succ_eq_append_getElem (by simpa using h), flatG_append, flatG_one]
  simp [cellsE, entB]

def DRead (s : ByteArray) (w' : World) (v : Value) (x : ByteArray) (c : Nat) : Prop :=
  match readD s.data.toList with
  | .error e => v = .slice none 0 0 ∧ x = { data := #[] } ∧ c = e
  | .ok (l, q) => RowE w' v (l.map entB) ∧ x = s.extract q s.size ∧ c = 0
theorem dread_err {s : ByteArray} {e : Nat} (h : readD s.data.toList = .error e) (w' : World) : DRead s w' (.slice none 0 0) { data := #[] } e := by
  unfold DRead; rw [h]; exact ⟨rfl, rfl, rfl⟩
theorem dread_ok {s : ByteArray} {l : List EntL} {q : Nat} (h : readD s.data.toList = .ok (l, q)) {w' : World} {v : Value} (hr : RowE w' v (l.map entB)) : DRead s w' v (s.extract q s.size) 0 := by
  unfold DRead; rw [h]; exact ⟨hr, rfl, rfl⟩

end Go.Proofs.Ytfjjigcghhohkaa
