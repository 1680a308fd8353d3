/-
  What missivelaw14.lives does, over this seat's program.
-/
import Derived.Test.YtmadjiiomjlnaaaDsm
set_option linter.unusedVariables false
namespace Go.Proofs.Ytmadjiiomjlnaaa
open Go.RowKit Go.Proofs.Num Go.Proofs.Dct

/-- A row that was just built of what it holds. -/
theorem rowG_lit {α : Type} {c : α → List Value} {Fit : α → Prop} (w : World) (t : TypeId) (l : List α) (cs : Array Value) (hcs : flatG c l = cs.toList) (hl : l.length ≤ 4194304) (hf : ∀ x ∈ l, Fit x) (n : Nat) (hn : n = l.length) :
    RowG c Fit (w.alloc (.cells cs t)) (.slice (some ⟨w.heap.size, 0, none⟩) n n) l := by
  subst hn
  refine ⟨_, _, rfl, hl, hf, Or.inr ⟨w.heap.size, 0, rfl, by simp, fun j u hj => ?_⟩⟩
  rw [Nat.zero_add, Blk.cell (Blk.new w t cs)]
  rw [hcs] at hj
  simpa using hj

def lv1 : List Ent := [(3, ⟨#[97]⟩), (5, ⟨#[]⟩)]
def lv2 : List Ent := [(3, ⟨#[]⟩), (3, ⟨#[]⟩)]
def lv5 : List Ent := [(5, ⟨#[]⟩)]
def lvS : ByteArray := ⟨#[2, 3, 1, 1, 0, 97]⟩
theorem lv1_w : writeD (lv1.map lstE) = ([2, 3, 1, 1, 0, 97], 0) := by decide +kernel
theorem lv2_w : writeD (lv2.map lstE) = ([], 12) := by decide +kernel
theorem lv_r : readD [2, 3, 1, 1, 0, 97, 122] = .ok ([(3, [97]), (5, [])], 6) := by rfl
theorem lv_r0 : readD [2, 3, 1, 1, 0, 97] = .ok ([(3, [97]), (5, [])], 6) := by rfl
theorem fit_lv1 : ∀ x ∈ lv1, FitE x := by
  intro x hx
  simp only [lv1, List.mem_cons, List.not_mem_nil, or_false] at hx
  rcases hx with rfl | rfl <;> exact ⟨by decide, by decide⟩
theorem fit_lv2 : ∀ x ∈ lv2, FitE x := by
  intro x hx
  simp only [lv2, List.mem_cons, List.not_mem_nil, or_false] at hx
  rcases hx with rfl | rfl <;> exact ⟨by decide, by decide⟩

set_option maxHeartbeats 4000000 in
set_option maxRecDepth 100000 in
theorem dlives_any (w : World) : Calls Try.prog 11 #[] w fun e w' => e = .returned (.bool true) ∧ Below w.heap.size w w' := by
  have hA0 : Below w.heap.size w (w.alloc (.cells #[.int .u64 3, .string ⟨#[97]⟩, .int .u64 5, .string ⟨#[]⟩] 41)) := (Below.refl _ w).alloc (Nat.le_refl _) _
  have HW0 := hide (dwrite_any (.slice (some ⟨w.heap.size, 0, none⟩) 2 2) lv1 _ (rowG_lit w 41 lv1 #[.int .u64 3, .string ⟨#[97]⟩, .int .u64 5, .string ⟨#[]⟩] rfl (by decide) fit_lv1 2 rfl) (by decide))
  rw [lv1_w] at HW0
  simp only [bts] at HW0
  have HB0 := hide hA0
  clear hA0
  go_enter Try.func11, Try.ntmps11
  go_wp2_with fail
  refine (unhide HW0).mono ?_
  rintro e W1 ⟨rfl, hb⟩
  have HB1 := hide (belows' (unhide HB0) hb)
  clear hb HB0 HW0
  have HRD := hide (dread_any ⟨#[2, 3, 1, 1, 0, 97, 122]⟩ W1 (by decide))
  go_wp2_with fail
  refine (unhide HRD).mono ?_
  rintro e W2 ⟨v, x, c, rfl, hr, hb⟩
  unfold DRead at hr
  rw [lv_r] at hr
  obtain ⟨hrow, hx, rfl⟩ := hr
  rw [show (ByteArray.mk #[2, 3, 1, 1, 0, 97, 122]).extract 6 (ByteArray.mk #[2, 3, 1, 1, 0, 97, 122]).size = ⟨#[122]⟩ by decide +kernel] at hx
  subst hx
  rw [show ([(3, [97]), (5, [])] : List EntL).map entB = lv1 by rfl] at hrow
  have HROW := hide hrow
  have HB2 := hide (belows' (unhide HB1) hb)
  obtain ⟨ad, cap, hv, _⟩ := hrow
  subst hv
  rw [show lv1.length = 2 from rfl] at *
  clear hb HB1 HRD
  have HF1 := hide (fun W => dfind_any ⟨#[2, 3, 1, 1, 0, 97]⟩ 3 W (by decide) (by decide))
  rw [show findR (ByteArray.mk #[2, 3, 1, 1, 0, 97]).data.toList 3 = ([97], 0) by rfl] at HF1
  have HF2 := hide (fun W => dfind_any ⟨#[2, 3, 1, 1, 0, 97]⟩ 4 W (by decide) (by decide))
  rw [show findR (ByteArray.mk #[2, 3, 1, 1, 0, 97]).data.toList 4 = ([], 3) by rfl] at HF2
  simp only [bts] at HF1 HF2
  go_wp2_with fail
  refine (unhide HF1 _).mono ?_
  rintro e W3 ⟨rfl, hb⟩
  have HB3 := hide (belows' (unhide HB2) hb)
  have HR3 := hide ((unhide HROW).below hb)
  clear hb HB2 HROW HF1
  go_wp2_with fail
  refine (unhide HF2 _).mono ?_
  rintro e W4 ⟨rfl, hb⟩
  have HB4 := hide (belows' (unhide HB3) hb)
  have HR4 := hide ((unhide HR3).below hb)
  clear hb HB3 HR3 HF2
  have HRG := hide (drange_any ⟨#[2, 3, 1, 1, 0, 97]⟩ 4 9 W4 (by decide) (by decide) (by decide))
  go_wp2_with fail
  refine (unhide HRG).mono ?_
  rintro e W5 ⟨v5, c5, rfl, hr, hb⟩
  unfold DRange at hr
  rw [lv_r0] at hr
  obtain ⟨hrow5, rfl⟩ := hr
  rw [show ((([(3, [97]), (5, [])] : List EntL).filter (inB 4 9)).map entB) = lv5 by rfl] at hrow5
  have HROW5 := hide hrow5
  obtain ⟨ad5, cap5, hv5, _⟩ := hrow5
  subst hv5
  rw [show lv5.length = 1 from rfl] at *
  have HB5 := hide (belows' (unhide HB4) hb)
  have HR5 := hide ((unhide HR4).below hb)
  clear hb HB4 HR4 HRG
  have HKS := hide (dkeys_any ⟨#[2, 3, 1, 1, 0, 97]⟩ W5 (by decide))
  go_wp2_with fail
  refine (unhide HKS).mono ?_
  rintro e W6 ⟨v6, c6, rfl, hr, hb⟩
  unfold DKeys at hr
  rw [lv_r0] at hr
  obtain ⟨hrow6, rfl⟩ := hr
  rw [show keysE ([(3, [97]), (5, [])] : List EntL) = [3, 5] by rfl] at hrow6
  have HROW6 := hide hrow6
  obtain ⟨ad6, cap6, hv6, _⟩ := hrow6
  subst hv6
  rw [show ([3, 5] : List Nat).length = 2 from rfl] at *
  have HB6 := hide (belows' (unhide HB5) hb)
  have HR6 := hide ((unhide HR5).below hb)
  have HQ6 := hide ((unhide HROW5).below hb)
  clear hb HB5 HR5 HKS HROW5
  have hA7 : Below W6.heap.size W6 (W6.alloc (.cells #[.int .u64 3, .string ⟨#[]⟩, .int .u64 3, .string ⟨#[]⟩] 41)) := (Below.refl _ W6).alloc (Nat.le_refl _) _
  have HW7 := hide (dwrite_any (.slice (some ⟨W6.heap.size, 0, none⟩) 2 2) lv2 _ (rowG_lit W6 41 lv2 #[.int .u64 3, .string ⟨#[]⟩, .int .u64 3, .string ⟨#[]⟩] rfl (by decide) fit_lv2 2 rfl) (by decide))
  rw [lv2_w] at HW7
  simp only [bts] at HW7
  go_wp2_with fail
  refine (unhide HW7).mono ?_
  rintro e W7 ⟨rfl, hb⟩
  have HB7 := hide (belows' (unhide HB6) (belows' hA7 hb))
  have HR7 := hide ((unhide HR6).below (belows' hA7 hb))
  have HQ7 := hide ((unhide HQ6).below (belows' hA7 hb))
  have HU7 := hide ((unhide HROW6).below (belows' hA7 hb))
  clear hb HB6 HR6 HQ6 HROW6 hA7 HW7
  have hA8 : Below W7.heap.size W7 (W7.alloc (.cells #[.int .u64 3, .string ⟨#[97]⟩, .int .u64 5, .string ⟨#[]⟩] 41)) := (Below.refl _ W7).alloc (Nat.le_refl _) _
  have HS8 := hide (sameE_any _ (.slice (some ⟨W7.heap.size, 0, none⟩) 2 2) lv1 lv1 _ ((unhide HR7).below hA8) (rowG_lit W7 41 lv1 #[.int .u64 3, .string ⟨#[97]⟩, .int .u64 5, .string ⟨#[]⟩] rfl (by decide) fit_lv1 2 rfl))
  rw [decide_eq_true rfl] at HS8
  go_wp2_with fail
  refine (unhide HS8).mono ?_
  rintro e W8 ⟨rfl, hb⟩
  have HB8 := hide (belows' (unhide HB7) (belows' hA8 hb))
  have HQ8 := hide ((unhide HQ7).below (belows' hA8 hb))
  have HU8 := hide ((unhide HU7).below (belows' hA8 hb))
  clear hb HB7 HQ7 HR7 hA8 HS8 HU7
  have hA9 : Below W8.heap.size W8 (W8.alloc (.cells #[.int .u64 5, .string ⟨#[]⟩] 41)) := (Below.refl _ W8).alloc (Nat.le_refl _) _
  have HS9 := hide (sameE_any _ (.slice (some ⟨W8.heap.size, 0, none⟩) 1 1) lv5 lv5 _ ((unhide HQ8).below hA9) (rowG_lit W8 41 lv5 #[.int .u64 5, .string ⟨#[]⟩] rfl (by decide) (by
    intro x hx
    simp only [lv5, List.mem_cons, List.not_mem_nil, or_false] at hx
    subst hx
    exact ⟨by decide, by decide⟩) 1 rfl))
  rw [decide_eq_true rfl] at HS9
  go_wp2_with fail
  refine (unhide HS9).mono ?_
  rintro e W9 ⟨rfl, hb⟩
  have HB9 := hide (belows' (unhide HB8) (belows' hA9 hb))
  have HU9 := hide ((unhide HU8).below (belows' hA9 hb))
  clear hb HB8 HQ8 hA9 HS9 HU8
  have hA10 : Below W9.heap.size W9 (W9.alloc (.cells #[.int .u64 3, .int .u64 5] 31)) := (Below.refl _ W9).alloc (Nat.le_refl _) _
  have HS10 := hide (sameU_any _ (.slice (some ⟨W9.heap.size, 0, none⟩) 2 2) [3, 5] [3, 5] _ ((unhide HU9).below hA10) (rowG_lit W9 31 [3, 5] #[.int .u64 3, .int .u64 5] rfl (by decide) (by
    intro x hx
    simp only [List.mem_cons, List.not_mem_nil, or_false] at hx
    rcases hx with rfl | rfl <;> decide) 2 rfl))
  rw [decide_eq_true rfl] at HS10
  go_wp2_with fail
  refine (unhide HS10).mono ?_
  rintro e W10 ⟨rfl, hb⟩
  have HB10 := hide (belows' (unhide HB9) (belows' hA10 hb))
  clear hb HB9 hA10 HS10 HU9
  go_wp2
  go_ret
  exact ⟨by simp, unhide HB10⟩
end Go.Proofs.Ytmadjiiomjlnaaa
