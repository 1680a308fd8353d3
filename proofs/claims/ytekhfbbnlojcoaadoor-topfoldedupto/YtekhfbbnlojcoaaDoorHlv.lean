/-
  The walk of missivelaw08.lives, over this seat's program.
-/
import Derived.Test.YtekhfbbnlojcoaaDoorHsf
set_option linter.unusedVariables false
namespace Go.Proofs.YtekhfbbnlojcoaaDoor
open Go.RowKit Go.Proofs.Hed

/-- Fields of bytes. -/
def fld (p : List UInt8 × List UInt8) : Fld := (bts p.1, bts p.2)
theorem fld_lst (f : Fld) : fld (lst f) = f := by
  obtain ⟨a, b⟩ := f
  simp only [fld, lst, bts_toList]
theorem lst_fld (p : List UInt8 × List UInt8) : lst (fld p) = p := by
  obtain ⟨a, b⟩ := p
  simp only [fld, lst, toList_bts]
theorem flds_of {l : List Fld} {L : List (List UInt8 × List UInt8)} (h : l.map lst = L) : l = L.map fld := by
  rw [← h, List.map_map]
  conv => lhs; rw [← List.map_id l]
  apply List.map_congr_left
  intro f _
  exact (fld_lst f).symm
theorem map_fld (L : List (List UInt8 × List UInt8)) : (L.map fld).map lst = L := by
  rw [List.map_map]
  conv => rhs; rw [← List.map_id L]
  apply List.map_congr_left
  intro f _
  exact lst_fld f

/-- A literal's fields. -/
theorem rowF_lit (w : World) (l : List Fld) (cs : Array Value) (hcs : cs.toList = flatF l) (hl : l.length ≤ 4194304) (hf : ∀ f ∈ l, Fits f) : RowF (w.alloc (.cells cs 36)) (.slice (some ⟨w.heap.size, 0, none⟩) l.length l.length) l := by
  refine ⟨_, _, rfl, hl, hf, .inr ⟨w.heap.size, 0, rfl, by simp, fun j u hj => ?_⟩⟩
  rw [Nat.zero_add, World.cell?_alloc_at _ _ _ _ (by simp), ← Array.getElem?_toList, hcs]
  exact hj
theorem rowS_lit (w : World) (l : List ByteArray) (cs : Array Value) (hcs : cs.toList = l.map Value.string) (hl : l.length ≤ 9223372036854775807) (hn : ∀ s ∈ l, s.size ≤ 9223372036854775807) : RowS (w.alloc (.cells cs 9)) (.slice (some ⟨w.heap.size, 0, none⟩) l.length l.length) l := by
  refine ⟨_, _, rfl, hl, hn, .inr ⟨w.heap.size, 0, rfl, by simp, fun j hj => ?_⟩⟩
  rw [Nat.zero_add, World.cell?_alloc_at _ _ _ _ (by simp), ← Array.getElem?_toList, hcs, List.getElem?_map, List.getElem?_eq_getElem hj]
  rfl

def livesF : List (List UInt8 × List UInt8) := [([65], [98, 32, 99]), ([88], [121])]

set_option maxHeartbeats 4000000 in
set_option maxRecDepth 100000 in
theorem lives_any (w : World) :
    Calls Tryd.prog 5 #[] w fun e w' => e = .returned (.bool true) ∧ Below w.heap.size w w' := by
  have H1 := hide (parse_any (bts [65, 58, 32, 98, 13, 10, 32, 99, 10, 88, 58, 121, 32, 10, 10, 98, 111, 100, 121]) w (by decide))
  rw [toList_bts, show parseL [65, 58, 32, 98, 13, 10, 32, 99, 10, 88, 58, 121, 32, 10, 10, 98, 111, 100, 121] = (livesF, 15) by decide +kernel] at H1
  simp only [bts] at H1
  go_enter Tryd.func5, Tryd.ntmps5
  go_wp2_with fail
  refine (unhide H1).mono ?_
  clear H1
  rintro e W1 ⟨v, l, rfl, hrow, hl, hb1⟩
  have hl2 : l = livesF.map fld := by
    have := flds_of hl
    rw [this]; rfl
  subst hl2
  obtain ⟨ad, cap, rfl⟩ : ∃ ad cap, v = .slice (some ad) 2 cap := by
    obtain ⟨a, cap, hv, _, _, hc⟩ := hrow
    rcases hc with hc | ⟨b, off, ha, _⟩
    · cases hc
    · exact ⟨_, cap, by rw [hv, ha]; rfl⟩
  have HR := hide hrow
  have HB1 := hide hb1
  clear hrow hl hb1
  have HFa := hide (find_any _ _ ⟨#[97]⟩ W1 (unhide HR) (by decide))
  rw [show findV ⟨#[97]⟩ (livesF.map fld) = .tuple #[.string ⟨#[98, 32, 99]⟩, .int .i64 0] by rfl] at HFa
  go_wp2_with fail
  refine (unhide HFa).mono ?_
  clear HFa
  rintro e W2 ⟨rfl, hb⟩
  have HR2 := hide ((unhide HR).below hb)
  have HB2 := hide (belows' (unhide HB1) hb)
  clear hb HB1 HR
  have HFb := hide (find_any _ _ ⟨#[98]⟩ W2 (unhide HR2) (by decide))
  rw [show findV ⟨#[98]⟩ (livesF.map fld) = .tuple #[.string ⟨#[]⟩, .int .i64 3] by rfl] at HFb
  go_wp2_with fail
  refine (unhide HFb).mono ?_
  clear HFb
  rintro e W3 ⟨rfl, hb⟩
  have HR3 := hide ((unhide HR2).below hb)
  have HB3 := hide (belows' (unhide HB2) hb)
  clear hb HB2 HR2
  have HWr := hide (write_any _ _ W3 (unhide HR3))
  rw [map_fld, show writeR livesF = ([65, 58, 32, 98, 32, 99, 10, 88, 58, 32, 121, 10, 10], 0) by decide +kernel] at HWr
  simp only [bts] at HWr
  go_wp2_with fail
  refine (unhide HWr).mono ?_
  clear HWr
  rintro e W4 ⟨rfl, hb⟩
  have HR4 := hide ((unhide HR3).below hb)
  have HB4 := hide (belows' (unhide HB3) hb)
  clear hb HB3 HR3
  obtain ⟨va, wa, hra, hoa, hba⟩ := run_append_rowF (W4.alloc (.cells #[] 36)) W4.heap.size _ ad cap [] (livesF.map fld) 22 (own_emptyF W4) ((unhide HR4).below ((Below.refl _ W4).alloc (Nat.le_refl _) _)) (by simp [livesF]) (by simp)
  have hba' : Below W4.heap.size W4 wa := ((Below.refl _ W4).alloc (Nat.le_refl _) _).trans hba
  obtain ⟨vb, wb, hrb, hob, hbb⟩ := run_append_rowF wa W4.heap.size va ad cap ([] ++ livesF.map fld) (livesF.map fld) 22 hoa ((unhide HR4).below hba') (by simp [livesF]) hba'.size
  have hbw : Below W4.heap.size W4 wb := hba'.trans hbb
  have HRb := hide (rowF_of_own hob (by simp [livesF]) (by
    intro f hf
    simp only [livesF, List.nil_append, List.map_cons, List.map_nil, List.cons_append, List.mem_cons, List.not_mem_nil, or_false] at hf
    rcases hf with rfl | rfl | rfl | rfl <;> exact ⟨by decide, by decide⟩))
  have HR5 := hide ((unhide HR4).below hbw)
  have HB5 := hide (belows' (unhide HB4) hbw)
  have HAl := hide (all_any vb _ ⟨#[120]⟩ wb (unhide HRb) (by decide))
  rw [show allL ⟨#[120]⟩ ([] ++ livesF.map fld ++ livesF.map fld) = [⟨#[121]⟩, ⟨#[121]⟩] by rfl] at HAl
  clear hbw hbb hba hba' hoa hob HB4 HR4 HRb
  go_wp2_with (at_builtin; first | refine wpList_append_runF (by rfl) _ _ 22 rfl rfl rfl rfl hra ?_ | refine wpList_append_runF (by rfl) _ _ 22 rfl rfl rfl rfl hrb ?_)
  refine (unhide HAl).mono ?_
  clear HAl hra hrb
  rintro e W6 ⟨vm, rfl, hrs, hb⟩
  have HRS := hide hrs
  have HR6 := hide ((unhide HR5).below hb)
  have HB6 := hide (belows' (unhide HB5) hb)
  clear hrs hb HR5 HB5
  have hbA : Below W6.heap.size W6 (W6.alloc (.cells #[.string ⟨#[97, 32, 98]⟩, .string ⟨#[]⟩] 36)) := (Below.refl _ W6).alloc (Nat.le_refl _) _
  have HWa := hide (write_any (.slice (some ⟨W6.heap.size, 0, none⟩) 1 1) [(⟨#[97, 32, 98]⟩, ⟨#[]⟩)] _ (rowF_lit W6 [(⟨#[97, 32, 98]⟩, ⟨#[]⟩)] #[.string ⟨#[97, 32, 98]⟩, .string ⟨#[]⟩] rfl (by decide) (by
    intro f hf
    simp only [List.mem_cons, List.not_mem_nil, or_false] at hf
    subst hf
    exact ⟨by decide, by decide⟩)))
  rw [show writeR (([(⟨#[97, 32, 98]⟩, ⟨#[]⟩)] : List Fld).map lst) = ([], 2) by rfl] at HWa
  simp only [bts] at HWa
  have HR6a := hide ((unhide HR6).below hbA)
  have HB6a := hide (belows' (unhide HB6) hbA)
  have HRSa : Hid (RowS (W6.alloc (.cells #[.string ⟨#[97, 32, 98]⟩, .string ⟨#[]⟩] 36)) vm [⟨#[121]⟩, ⟨#[121]⟩]) := hide ((unhide HRS).below hbA)
  clear hbA HR6 HB6 HRS
  go_wp2_with fail
  generalize W6.alloc (.cells #[.string ⟨#[97, 32, 98]⟩, .string ⟨#[]⟩] 36) = W7 at HWa HR6a HB6a HRSa ⊢
  refine (unhide HWa).mono ?_
  clear HWa
  rintro e W8 ⟨rfl, hb⟩
  have HR8 := hide ((unhide HR6a).below hb)
  have HB8 := hide (belows' (unhide HB6a) hb)
  have HRS8 := hide ((unhide HRSa).below hb)
  clear hb HR6a HB6a HRSa
  have hbA : Below W8.heap.size W8 (W8.alloc (.cells #[.string ⟨#[65]⟩, .string ⟨#[98, 32, 99]⟩, .string ⟨#[88]⟩, .string ⟨#[121]⟩] 36)) := (Below.refl _ W8).alloc (Nat.le_refl _) _
  have HSa := hide (sameF_any (.slice (some ad) 2 cap) (.slice (some ⟨W8.heap.size, 0, none⟩) 2 2) (livesF.map fld) (livesF.map fld) _ ((unhide HR8).below hbA) (rowF_lit W8 (livesF.map fld) #[.string ⟨#[65]⟩, .string ⟨#[98, 32, 99]⟩, .string ⟨#[88]⟩, .string ⟨#[121]⟩] rfl (by decide) (by
    intro f hf
    simp only [livesF, List.map_cons, List.map_nil, List.mem_cons, List.not_mem_nil, or_false] at hf
    rcases hf with rfl | rfl <;> exact ⟨by decide, by decide⟩)))
  rw [decide_eq_true rfl] at HSa
  have HB8a := hide (belows' (unhide HB8) hbA)
  have HRS8a := hide ((unhide HRS8).below hbA)
  clear hbA HR8 HB8 HRS8
  go_wp2_with fail
  generalize W8.alloc (.cells #[.string ⟨#[65]⟩, .string ⟨#[98, 32, 99]⟩, .string ⟨#[88]⟩, .string ⟨#[121]⟩] 36) = W9 at HSa HB8a HRS8a ⊢
  refine (unhide HSa).mono ?_
  clear HSa
  rintro e W10 ⟨rfl, hb⟩
  have HB10 := hide (belows' (unhide HB8a) hb)
  have HRS10 := hide ((unhide HRS8a).below hb)
  clear hb HB8a HRS8a
  have hbA : Below W10.heap.size W10 (W10.alloc (.cells #[.string ⟨#[121]⟩, .string ⟨#[121]⟩] 9)) := (Below.refl _ W10).alloc (Nat.le_refl _) _
  have HSs := hide (sameS_any vm (.slice (some ⟨W10.heap.size, 0, none⟩) 2 2) [⟨#[121]⟩, ⟨#[121]⟩] [⟨#[121]⟩, ⟨#[121]⟩] _ ((unhide HRS10).below hbA) (rowS_lit W10 [⟨#[121]⟩, ⟨#[121]⟩] #[.string ⟨#[121]⟩, .string ⟨#[121]⟩] rfl (by decide) (by
    intro f hf
    simp only [List.mem_cons, List.not_mem_nil, or_false] at hf
    rcases hf with rfl | rfl <;> decide)))
  rw [decide_eq_true rfl] at HSs
  have HB10a := hide (belows' (unhide HB10) hbA)
  clear hbA HB10 HRS10
  go_wp2_with fail
  generalize W10.alloc (.cells #[.string ⟨#[121]⟩, .string ⟨#[121]⟩] 9) = W11 at HSs HB10a ⊢
  refine (unhide HSs).mono ?_
  clear HSs
  rintro e W12 ⟨rfl, hb⟩
  have HB12 := hide (belows' (unhide HB10a) hb)
  clear hb HB10a
  have HLk := hide (like_any ⟨#[115, 85, 98, 106, 101, 99, 116]⟩ ⟨#[83, 117, 98, 106, 101, 99, 116]⟩ W12 (by decide) (by decide))
  rw [show decide (smL (⟨#[115, 85, 98, 106, 101, 99, 116]⟩ : ByteArray).data.toList = smL (⟨#[83, 117, 98, 106, 101, 99, 116]⟩ : ByteArray).data.toList) = true by decide +kernel] at HLk
  go_wp2_with fail
  refine (unhide HLk).mono ?_
  clear HLk
  rintro e _ ⟨rfl, q, rfl⟩
  go_wp2
  go_ret
  exact ⟨by simp, below_drewN (unhide HB12) q⟩

end Go.Proofs.YtekhfbbnlojcoaaDoor
