/-
  What dict.Read does, over this seat's program.
-/
import Derived.Test.YtmadjiiomjlnaaaDcp
set_option linter.unusedVariables false
namespace Go.Proofs.Ytmadjiiomjlnaaa
open Go.RowKit Go.Proofs.Num Go.Proofs.Dct

/-- An entry as it lies in memory. -/
def entB (e : EntL) : Ent := (e.1, bts e.2)
def FitE (e : Ent) : Prop := e.1 ≤ 18446744073709551615 ∧ e.2.size ≤ 140737488355328
def Fit3 (e : Ent3) : Prop := e.1 ≤ 18446744073709551615 ∧ e.2.1.size ≤ 140737488355328
abbrev RowE := RowG cellsE FitE
abbrev Row3 := RowG cells3 Fit3
/-- What a list of entries is in memory, as lists of bytes. -/
def lstE (e : Ent) : EntL := (e.1, e.2.data.toList)
theorem lst_entB (e : EntL) : lstE (entB e) = e := by simp [lstE, entB, toList_bts]
theorem entB_lst (e : Ent) : entB (lstE e) = e := by simp [lstE, entB, bts_toList]
theorem map_lst_entB (l : List EntL) : (l.map entB).map lstE = l := by
  rw [List.map_map, show lstE ∘ entB = id from funext lst_entB, List.map_id]
theorem map_entB_lst (l : List Ent) : (l.map lstE).map entB = l := by
  rw [List.map_map, show entB ∘ lstE = id from funext entB_lst, List.map_id]

theorem data_le {l : List EntL} {e : EntL} (h : e ∈ l) : e.2.length ≤ (datas l).length := by
  induction l with
  | nil => cases h
  | cons x r ih =>
    rw [datas_cons, List.length_append]
    rcases List.mem_cons.1 h with rfl | h
    · omega
    · have := ih h; omega
theorem fit_read {s : ByteArray} {l : List EntL} {q : Nat} (hs : s.size ≤ 140737488355328) (h : readD s.data.toList = .ok (l, q)) : (∀ e ∈ l, FitE (entB e)) ∧ l.length ≤ 65536 ∧ q ≤ s.size := by
  obtain ⟨h1, h2, h3, h4, h5, h6⟩ := read_ok h
  rw [sizeL] at h2 h5
  refine ⟨fun e he => ⟨(h3 e he).1, ?_⟩, h4, h2⟩
  have := data_le he
  show (bts e.2).size ≤ _
  rw [size_bts]
  omega
theorem row3_of {w : World} {B : Nat} {v : Value} {l : List EntL} (h : w.ownsRow B 57 3 v (l.map ent1).length (flatG cells3 (l.map ent1))) (hl : l.length ≤ 65536) (hf : ∀ e ∈ l, FitE (entB e)) : Row3 w v (l.map ent1) := by
  refine rowG_of_own cells3_len h (by simp; omega) ?_
  intro x hx
  obtain ⟨e, he, rfl⟩ := List.mem_map.1 hx
  exact hf e he

/-- What open answers, as a row. -/
theorem open_row (s : ByteArray) (w : World) (hs : s.size ≤ 140737488355328) :
    Calls Try.prog 24 #[.string s] w fun e w' => (∃ c : Nat, readD s.data.toList = .error c ∧ c ≠ 0 ∧ e = .returned (.tuple #[.slice none 0 0, .int .i64 0, .int .i64 (c : Int)]) ∧ Below w.heap.size w w')
      ∨ (∃ v l, ∃ q : Nat, readD s.data.toList = .ok (l, q) ∧ e = .returned (.tuple #[v, .int .i64 (q : Int), .int .i64 0]) ∧ Row3 w' v (l.map ent1) ∧ Below w.heap.size w w') := by
  refine (open_any s w hs).mono ?_
  rintro e w' ⟨v, p, c, rfl, h, hb⟩
  unfold OpI at h
  cases hE : readD s.data.toList with
  | error x =>
    rw [hE] at h
    obtain ⟨rfl, rfl, rfl⟩ := h
    exact Or.inl ⟨c, rfl, readD_err_code hE, rfl, hb⟩
  | ok x =>
    obtain ⟨l, q⟩ := x
    rw [hE] at h
    obtain ⟨h1, rfl, rfl⟩ := h
    obtain ⟨a1, a2, a3⟩ := fit_read hs hE
    exact Or.inr ⟨v, l, p, rfl, rfl, row3_of h1 a2 a1, hb⟩

theorem flat_next (l : List EntL) (k : Nat) (h : k < l.length) : flatG cellsE ((l.map entB).take (k + 1)) = flatG cellsE ((l.map entB).take k) ++ [.int .u64 ((l[k]).1 : Int), .string (bts (l[k]).2)] := by
  rw [List.take_succ_eq_append_getElem (by simpa using h), flatG_append, flatG_one]
  simp [cellsE, entB]

def DRead (s : ByteArray) (w' : World) (v : Value) (x : ByteArray) (c : Nat) : Prop :=
  match readD s.data.toList with
  | .error e => v = .slice none 0 0 ∧ x = { data := #[] } ∧ c = e
  | .ok (l, q) => RowE w' v (l.map entB) ∧ x = s.extract q s.size ∧ c = 0
theorem dread_err {s : ByteArray} {e : Nat} (h : readD s.data.toList = .error e) (w' : World) : DRead s w' (.slice none 0 0) { data := #[] } e := by
  unfold DRead; rw [h]; exact ⟨rfl, rfl, rfl⟩
theorem dread_ok {s : ByteArray} {l : List EntL} {q : Nat} (h : readD s.data.toList = .ok (l, q)) {w' : World} {v : Value} (hr : RowE w' v (l.map entB)) : DRead s w' v (s.extract q s.size) 0 := by
  unfold DRead; rw [h]; exact ⟨hr, rfl, rfl⟩

set_option maxHeartbeats 2000000 in
set_option maxRecDepth 100000 in
theorem dread_any (s : ByteArray) (w : World) (hs : s.size ≤ 140737488355328) :
    Calls Try.prog 9 #[.string s] w fun e w' => ∃ v x, ∃ c : Nat, e = .returned (.tuple #[v, .string x, .int .i64 c]) ∧ DRead s w' v x c ∧ Below w.heap.size w w' := by
  have HR0 := hide (open_row s w hs)
  obtain ⟨i0, hi, hz0, hz1, hz2⟩ := info_parts entInfo
  go_enter Try.func9, Try.ntmps9
  go_wp2_with fail
  refine (unhide HR0).mono ?_
  rintro e w1 (⟨c, hE, hc, rfl, hb1⟩ | ⟨v, l, q, hE, rfl, hrow, hb1⟩)
  · have hne : ((c : Int) == 0) = false := by simp; omega
    have HF := hide hE
    clear hE hc HR0
    go_wp2
    go_ret3
    exact ⟨_, _, c, rfl, dread_err (unhide HF) _, hb1⟩
  · obtain ⟨a1, a2, a3⟩ := fit_read hs hE
    have HFT := hide a1
    have HF := hide hE
    have HB1 := hide hb1
    have HR := hide hrow
    obtain ⟨ad, cap, hv, hrest⟩ := hrow
    subst hv
    rw [List.length_map] at *
    obtain ⟨T, hT⟩ : ∃ T, T = l.length := ⟨_, rfl⟩
    rw [← hT] at HR a2 ⊢
    have HTL := hide hT
    clear hE a1 hb1 hrest hT HR0
    go_wp2
    go_loopw [8, 10, 22] (fun xl xe z wr => ∃ k : Nat, z = .int .i64 k ∧ k ≤ T ∧ Hid (wr.ownsRow w1.heap.size 41 2 xl k (flatG cellsE ((l.map entB).take k))) ∧ Hid (Below w1.heap.size w1 wr)) (fun _ _ z _ => T - (intOf z).toNat)
    case atStart => exact ⟨0, rfl, Nat.zero_le _, hide ⟨by simp [flatG], Or.inl ⟨rfl, rfl⟩⟩, hide (Below.refl _ _)⟩
    case round =>
      obtain ⟨k, rfl, hk, HO, HB⟩ := hrel
      obtain ⟨ao, co, hu8, hco⟩ := own_sliceG (unhide HO)
      subst hu8
      by_cases hlt : k < T
      · have hlt1 : (k : Int) < (T : Int) := by omega
        have hkl : k < l.length := by have := unhide HTL; omega
        obtain ⟨b, off, cap', hv', hblt, hcell⟩ := RowG.at cells3_len ((unhide HR).below (unhide HB)) (j := k) (by simpa using hkl)
        injection hv' with e1 e2 e3
        subst e1
        have c0 := hcell 0 (by omega)
        have c1 := hcell 1 (by omega)
        have c2 := hcell 2 (by omega)
        have hfit : (l[k]).1 ≤ 18446744073709551615 ∧ (bts (l[k]).2).size ≤ 140737488355328 := unhide HFT l[k] (List.getElem_mem hkl)
        have hnx := flat_next l k hkl
        simp only [List.getElem_map, cells3, ent1, List.getElem?_cons_succ, List.getElem?_cons_zero, Nat.add_zero] at c0 c1 c2
        generalize (l[k]).1 = ky at c0 hnx hfit
        generalize (l[k]).2.length = nn at c2
        generalize bts (l[k]).2 = D at c1 hnx hfit
        have HNX := hide hnx
        have hzr := (unhide HB).size
        have HC := hide (fun W => copied_any ky nn D W hfit.2)
        have HBA := hide ((Below.refl _ wr).alloc (Nat.le_refl _) (.cells #[.int .u64 (ky : Int), .string D, .int .u64 (nn : Int)] 57))
        clear hcell hnx hfit e2 e3
        go_wp2_with fail
        refine (unhide HC _).mono ?_
        rintro e w3 ⟨rfl, hb3⟩
        have hz3 : wr.heap.size ≤ w3.heap.size := by have := hb3.size; simp at this; omega
        have HB3 := hide (belows' (unhide HBA) hb3)
        have HOW := hide (own_below (unhide HO) ((unhide HB3).alloc hz3 (.cells #[.int .u64 (ky : Int), .string D] 41)))
        clear hb3 HBA HC
        go_wp2_with (at_builtin; refine wpList_append_own _ rfl _ _ 22 rfl w1.heap.size 41 i0 (.agg #[.int .u64 0, .string ByteArray.empty]) 2 24 Try.underlying22 hi hz0 hz1 hz2 rfl (by decide) _ _ _ rfl (unhide HOW) ⟨w3.heap.size, 0, none⟩ 1 1 [.int .u64 (ky : Int), .string D] rfl rfl ?c1 ?c2 ?c3 ?c4 ?c5 ?_)
        case c1 =>
          intro j u hj
          exact new_cells _ _ _ _ (by simp) j u hj
        case c2 => intro u hu; simp at hu; rcases hu with rfl | rfl <;> rfl
        case c3 => unfold maxLen; omega
        case c4 => omega
        case c5 => simp; omega
        intro v' w4 hown' hgrow _
        have HB4 := hide (below_own ((unhide HB).trans (((unhide HB3).alloc hz3 (.cells #[.int .u64 (ky : Int), .string D] 41)).mono hzr)) (unhide HOW) hgrow (by simp; omega))
        rw [← unhide HNX] at hown'
        have HO4 := hide hown'
        clear hown' hgrow HOW HO HB HB3
        go_wp2
        exact ⟨⟨k + 1, by go_num, by omega, HO4, HB4⟩, by simp [intOf]; omega⟩
      · have hlt1 : ¬ (k : Int) < (T : Int) := by omega
        have hke : k = T := by omega
        have hown := unhide HO
        rw [List.take_of_length_le (by have := unhide HTL; simp; omega)] at hown
        have hlen : k = (l.map entB).length := by have := unhide HTL; simp; omega
        have hrow : RowE wr (.slice ao k co) (l.map entB) := by
          refine rowG_of_own cellsE_len (by rw [← hlen]; exact hown) (by rw [← hlen]; omega) ?_
          intro x hx
          obtain ⟨e, he, rfl⟩ := List.mem_map.1 hx
          exact unhide HFT e he
        have HRR := hide hrow
        have HCL := hide (fun W => clone_any (s.extract q s.size) W (by rw [ByteArray.size_extract]; omega))
        have hsl := slice_from s q q rfl a3
        have HBB := hide (belows' (unhide HB1) (unhide HB))
        clear hown hlen hrow HO HB hke
        go_wp2_with fail
        refine (unhide HCL _).mono ?_
        rintro e w2 ⟨rfl, hb2⟩
        go_wp2
        go_ret3
        exact ⟨_, _, 0, rfl, dread_ok (unhide HF) ((unhide HRR).below hb2), belows' (unhide HBB) hb2⟩
end Go.Proofs.Ytmadjiiomjlnaaa
