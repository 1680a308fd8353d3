/-
  What dict.Range does, over this seat's program.
-/
import Derived.Test.YtmadjiiomjlnaaaDib
set_option linter.unusedVariables false
namespace Go.Proofs.Ytmadjiiomjlnaaa
open Go.RowKit Go.Proofs.Num Go.Proofs.Dct

def inB (f t : Nat) (e : EntL) : Bool := decide (f ≤ e.1) && decide (e.1 ≤ t)
/-- The entries of a range among the first k. -/
def upB (f t : Nat) (l : List EntL) (k : Nat) : List Ent := ((l.take k).filter (inB f t)).map entB
theorem upB_in {f t : Nat} {l : List EntL} {k : Nat} (h : k < l.length) (hi : inB f t l[k] = true) : upB f t l (k + 1) = upB f t l k ++ [entB l[k]] := by
  unfold upB
  rw [List.take_succ_eq_append_getElem h, List.filter_append, List.map_append]
  simp [hi]
theorem upB_out {f t : Nat} {l : List EntL} {k : Nat} (h : k < l.length) (hi : inB f t l[k] = false) : upB f t l (k + 1) = upB f t l k := by
  unfold upB
  rw [List.take_succ_eq_append_getElem h, List.filter_append, List.map_append]
  simp [hi]
theorem upB_len (f t : Nat) (l : List EntL) (k : Nat) : (upB f t l k).length ≤ k := by
  unfold upB
  rw [List.length_map]
  have h1 := List.length_filter_le (inB f t) (l.take k)
  rw [List.length_take] at h1
  omega
def DRange (s : ByteArray) (f t : Nat) (w' : World) (v : Value) (c : Nat) : Prop :=
  match readD s.data.toList with
  | .error e => v = .slice none 0 0 ∧ c = e
  | .ok (l, q) => RowE w' v ((l.filter (inB f t)).map entB) ∧ c = 0
theorem drange_err {s : ByteArray} {f t e : Nat} (h : readD s.data.toList = .error e) (w' : World) : DRange s f t w' (.slice none 0 0) e := by
  unfold DRange; rw [h]; exact ⟨rfl, rfl⟩
theorem drange_ok {s : ByteArray} {f t : Nat} {l : List EntL} {q : Nat} (h : readD s.data.toList = .ok (l, q)) {w' : World} {v : Value} (hr : RowE w' v ((l.filter (inB f t)).map entB)) : DRange s f t w' v 0 := by
  unfold DRange; rw [h]; exact ⟨hr, rfl⟩

set_option maxHeartbeats 2000000 in
set_option maxRecDepth 100000 in
theorem drange_any (s : ByteArray) (f t : Nat) (w : World) (hs : s.size ≤ 140737488355328) (hf : f ≤ 18446744073709551615) (ht : t ≤ 18446744073709551615) :
    Calls Try.prog 15 #[.string s, .int .u64 (f : Int), .int .u64 (t : Int)] w fun e w' => ∃ v, ∃ c : Nat, e = .returned (.tuple #[v, .int .i64 c]) ∧ DRange s f t w' v c ∧ Below w.heap.size w w' := by
  have HR0 := hide (open_row s w hs)
  obtain ⟨i0, hi, hz0, hz1, hz2⟩ := info_parts entInfo
  go_enter Try.func15, Try.ntmps15
  go_wp2_with fail
  refine (unhide HR0).mono ?_
  rintro e w1 (⟨c, hE, hc, rfl, hb1⟩ | ⟨v, l, q, hE, rfl, hrow, hb1⟩)
  · have hne : ((c : Int) == 0) = false := by simp; omega
    have HF := hide hE
    clear hE hc HR0
    go_wp2
    go_ret2
    exact ⟨_, c, rfl, drange_err (unhide HF) _, hb1⟩
  · obtain ⟨a1, a2, a3⟩ := fit_read hs hE
    have HFT := hide a1
    have HF := hide hE
    have HB1 := hide hb1
    have HR := hide hrow
    obtain ⟨ad, cap, hv, hrest⟩ := hrow
    subst hv
    rw [List.length_map] at *
    obtain ⟨T, hT⟩ : ∃ T, T = l.length := ⟨_, rfl⟩
    rw [← hT] at HR a2 ⊢
    have HTL := hide hT
    clear hE a1 hb1 hrest hT HR0
    go_wp2
    go_loopw [11, 13, 25] (fun xl xe z wr => ∃ k n : Nat, z = .int .i64 k ∧ k ≤ T ∧ n ≤ k ∧ Hid (n = (upB f t l k).length) ∧ Hid (wr.ownsRow w1.heap.size 41 2 xl n (flatG cellsE (upB f t l k))) ∧ Hid (Below w1.heap.size w1 wr)) (fun _ _ z _ => T - (intOf z).toNat)
    case atStart => exact ⟨0, 0, rfl, Nat.zero_le _, Nat.le_refl _, hide (by simp [upB]), hide ⟨by simp [flatG, upB], Or.inl ⟨rfl, rfl⟩⟩, hide (Below.refl _ _)⟩
    case round =>
      obtain ⟨k, n, rfl, hk, hnk, HN, HO, HB⟩ := hrel
      obtain ⟨ao, co, hu8, hco⟩ := own_sliceG (unhide HO)
      subst hu8
      by_cases hlt : k < T
      · have hlt1 : (k : Int) < (T : Int) := by omega
        have hkl : k < l.length := by have := unhide HTL; omega
        obtain ⟨b, off, cap', hv', hblt, hcell⟩ := RowG.at cells3_len ((unhide HR).below (unhide HB)) (j := k) (by simpa using hkl)
        injection hv' with e1 e2 e3
        subst e1
        have c0 := hcell 0 (by omega)
        have c1 := hcell 1 (by omega)
        have c2 := hcell 2 (by omega)
        have hfit : (l[k]).1 ≤ 18446744073709551615 ∧ (bts (l[k]).2).size ≤ 140737488355328 := unhide HFT l[k] (List.getElem_mem hkl)
        have hzr := (unhide HB).size
        simp only [List.getElem_map, cells3, ent1, List.getElem?_cons_succ, List.getElem?_cons_zero, Nat.add_zero] at c0 c1 c2
        by_cases hin : f ≤ (l[k]).1 ∧ (l[k]).1 ≤ t
        · have hnx := upB_in (f := f) (t := t) hkl (by unfold inB; simp [hin.1, hin.2])
          have hflat : flatG cellsE (upB f t l (k + 1)) = flatG cellsE (upB f t l k) ++ [.int .u64 ((l[k]).1 : Int), .string (bts (l[k]).2)] := by
            rw [hnx, flatG_append, flatG_one]; rfl
          have hlen : n + 1 = (upB f t l (k + 1)).length := by rw [hnx, List.length_append, ← unhide HN]; rfl
          generalize (l[k]).1 = ky at c0 hflat hfit hin
          generalize (l[k]).2.length = nn at c2
          generalize bts (l[k]).2 = D at c1 hflat hfit
          have HNX := hide hflat
          have HLN := hide hlen
          have hin1 : (f : Int) ≤ (ky : Int) := by omega
          have hin2 : (ky : Int) ≤ (t : Int) := by omega
          have HC := hide (fun W => copied_any ky nn D W hfit.2)
          have HBA := hide ((Below.refl _ wr).alloc (Nat.le_refl _) (.cells #[.int .u64 (ky : Int), .string D, .int .u64 (nn : Int)] 57))
          clear hcell hnx hfit e2 e3 hflat hlen hin
          go_wp2_with fail
          refine (unhide HC _).mono ?_
          rintro e w3 ⟨rfl, hb3⟩
          have hz3 : wr.heap.size ≤ w3.heap.size := by have := hb3.size; simp at this; omega
          have HB3 := hide (belows' (unhide HBA) hb3)
          have HOW := hide (own_below (unhide HO) ((unhide HB3).alloc hz3 (.cells #[.int .u64 (ky : Int), .string D] 41)))
          clear hb3 HBA HC
          go_wp2_with (at_builtin; refine wpList_append_own _ rfl _ _ 22 rfl w1.heap.size 41 i0 (.agg #[.int .u64 0, .string ByteArray.empty]) 2 24 Try.underlying22 hi hz0 hz1 hz2 rfl (by decide) _ _ _ rfl (unhide HOW) ⟨w3.heap.size, 0, none⟩ 1 1 [.int .u64 (ky : Int), .string D] rfl rfl ?c1 ?c2 ?c3 ?c4 ?c5 ?_)
          case c1 =>
            intro j u hj
            exact new_cells _ _ _ _ (by simp) j u hj
          case c2 => intro u hu; simp at hu; rcases hu with rfl | rfl <;> rfl
          case c3 => unfold maxLen; omega
          case c4 => omega
          case c5 => simp; omega
          intro v' w4 hown' hgrow _
          have HB4 := hide (below_own ((unhide HB).trans (((unhide HB3).alloc hz3 (.cells #[.int .u64 (ky : Int), .string D] 41)).mono hzr)) (unhide HOW) hgrow (by simp; omega))
          rw [← unhide HNX] at hown'
          have HO4 := hide hown'
          clear hown' hgrow HOW HO HB HB3
          go_wp2
          exact ⟨⟨k + 1, n + 1, by go_num, by omega, by omega, HLN, HO4, HB4⟩, by simp [intOf]; omega⟩
        · have hnx := upB_out (f := f) (t := t) hkl (by unfold inB; rw [← Bool.not_eq_true]; simpa using hin)
          have HN9 := hide (by rw [hnx]; exact unhide HN : n = (upB f t l (k + 1)).length)
          have HO9 := hide (own_below (unhide HO) ((Below.refl _ wr).alloc (Nat.le_refl _) (.cells #[.int .u64 ((l[k]).1 : Int), .string (bts (l[k]).2), .int .u64 ((l[k]).2.length : Int)] 57)))
          rw [← hnx] at HO9
          have HBA := hide ((unhide HB).alloc hzr (.cells #[.int .u64 ((l[k]).1 : Int), .string (bts (l[k]).2), .int .u64 ((l[k]).2.length : Int)] 57))
          have hkb := hfit.1
          generalize (l[k]).2.length = nn at c2 HO9 HBA
          generalize bts (l[k]).2 = D at c1 HO9 HBA
          generalize (l[k]).1 = ky at c0 hin hkb HO9 HBA
          clear hcell hfit e2 e3 hnx HN HO HB
          by_cases hin1 : f ≤ ky
          · have h1 : (f : Int) ≤ (ky : Int) := by omega
            have h2 : ¬ (ky : Int) ≤ (t : Int) := by omega
            clear hin
            go_wp2
            exact ⟨⟨k + 1, n, by go_num, by omega, by omega, HN9, HO9, HBA⟩, by simp [intOf]; omega⟩
          · have h1 : ¬ (f : Int) ≤ (ky : Int) := by omega
            clear hin
            go_wp2
            exact ⟨⟨k + 1, n, by go_num, by omega, by omega, HN9, HO9, HBA⟩, by simp [intOf]; omega⟩
      · have hlt1 : ¬ (k : Int) < (T : Int) := by omega
        have hall : upB f t l k = (l.filter (inB f t)).map entB := by
          unfold upB
          rw [List.take_of_length_le (by have := unhide HTL; omega)]
        have hown := unhide HO
        have hn := unhide HN
        rw [hall] at hown hn
        have hrow : RowE wr (.slice ao n co) ((l.filter (inB f t)).map entB) := by
          refine rowG_of_own cellsE_len (by rw [← hn]; exact hown) (by rw [← hn]; omega) ?_
          intro x hx
          obtain ⟨e, he, rfl⟩ := List.mem_map.1 hx
          exact unhide HFT e (List.mem_filter.1 he).1
        have HRR := hide hrow
        have HBB := hide (belows' (unhide HB1) (unhide HB))
        clear hown hrow HO HB hn hall HN
        go_wp2
        go_ret2
        exact ⟨_, 0, rfl, drange_ok (unhide HF) (unhide HRR), unhide HBB⟩
end Go.Proofs.Ytmadjiiomjlnaaa
