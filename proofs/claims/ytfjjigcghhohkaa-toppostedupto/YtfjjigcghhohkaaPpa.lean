/-
  What missiveref13.Same does with two lists of one block, and what missivelaw13.packs does, over this seat's program.
-/
import Derived.Test.YtfjjigcghhohkaaPnu
import Derived.Test.YtfjjigcghhohkaaPnt
import Derived.Test.YtfjjigcghhohkaaPsm
import Derived.Test.YtfjjigcghhohkaaPlv
import Derived.WalkLawsBesides
set_option linter.unusedVariables false
namespace Go.Proofs.Ytfjjigcghhohkaa
open Go.RowKit Go.Proofs.Num Go.Proofs.Dct Go.Proofs.Pna

/-- A slice of blocks. -/
def RowK (w : World) (v : Value) (l : List (Nat × List Nat)) : Prop := RowG cellsK (fun _ => True) w v l

set_option maxHeartbeats 1000000 in
set_option maxRecDepth 100000 in
theorem sameB_one (v v' : Value) (p : Nat × List Nat) (w : World) (h : RowK w v [p]) (h' : RowK w v' [p]) :
    Calls Try.prog 18 #[v, v'] w fun e w' => e = .returned (.bool true) ∧ Below w.heap.size w w' := by
  have HR := hide h
  have HR' := hide h'
  obtain ⟨a, cap, rfl, hl, hn, _⟩ := h
  obtain ⟨a', cap', rfl, hl', hn', _⟩ := h'
  simp only [List.length_cons, List.length_nil, Nat.zero_add] at HR HR' ⊢
  clear hl hl' hn hn'
  go_enter Try.func18, Try.ntmps18
  go_wp2
  go_loopw [5, 13] (fun x z wr => ∃ k : Nat, z = .int .i64 k ∧ k ≤ 1 ∧ Hid (Below w.heap.size w wr)) (fun _ z _ => 1 - (intOf z).toNat)
  case atStart => exact ⟨0, rfl, Nat.zero_le _, hide (Below.refl _ _)⟩
  case round =>
    obtain ⟨k, rfl, hk, HB⟩ := hrel
    by_cases hlt : k < 1
    · have hk0 : k = 0 := by omega
      subst hk0
      obtain ⟨b, off, cp, hv1, hblt, hcell⟩ := RowG.at cellsK_len ((unhide HR).below (unhide HB)) (j := 0) (by simp)
      obtain ⟨b2, off2, cp2, hv2, hblt2, hcell2⟩ := RowG.at cellsK_len ((unhide HR').below (unhide HB)) (j := 0) (by simp)
      injection hv1 with e1 e2 e3
      injection hv2 with e4 e5 e6
      subst e1 e4
      have c0 := hcell 0 (by omega)
      have c1 := hcell 1 (by omega)
      have c2 := hcell 2 (by omega)
      have c3 := hcell 3 (by omega)
      have d0 := hcell2 0 (by omega)
      have d1 := hcell2 1 (by omega)
      have d2 := hcell2 2 (by omega)
      have d3 := hcell2 3 (by omega)
      simp only [List.getElem_cons_zero, cellsK, List.getElem?_cons_zero, List.getElem?_cons_succ, Nat.add_zero, Nat.zero_mul] at c0 c1 c2 c3 d0 d1 d2 d3
      clear e2 e3 e5 e6 hcell hcell2
      generalize p.2.getD 0 0 = x0 at c0 d0
      generalize p.2.getD (p.2.length - 1) 0 = x1 at c1 d1
      generalize p.2.length = x2 at c2 d2
      generalize p.1 = x3 at c3 d3
      go_wp2
      go_quiet (fail)
      go_wp2
      exact ⟨⟨1, by go_num, by omega, hide (below_drewN (unhide HB) _)⟩, by simp [intOf]⟩
    · have hk1 : k = 1 := by omega
      subst hk1
      go_wp2
      go_ret
      exact ⟨rfl, unhide HB⟩

def p3 : List Nat := [5, 6, 300]
def t3 : List UInt8 := [3, 5, 3, 3, 0, 165, 2]
theorem pack_p3 : packL p3 = t3 := by decide +kernel
theorem chk_p3 : chk p3 = 0 := by decide +kernel
theorem read_t3 : (readS t3).1 = [(1, p3)] ∧ (readS t3).2.er = 0 ∧ (readS t3).2.pos = 7 := by refine ⟨?_, ?_, ?_⟩ <;> decide +kernel
theorem read_t3z : flatB (readS (t3 ++ [122])).1 = p3 ∧ (readS (t3 ++ [122])).2.er = 0 ∧ (readS (t3 ++ [122])).2.pos = 7 := by refine ⟨?_, ?_, ?_⟩ <;> decide +kernel
theorem read_t34 : (readS [3, 5, 3, 3]).2.er = 5 := by decide +kernel
def s3 : ByteArray := ⟨#[3, 5, 3, 3, 0, 165, 2]⟩

set_option maxHeartbeats 4000000 in
set_option maxRecDepth 100000 in
theorem packs_any (w : World) : Calls Try.prog 6 #[] w fun e w' => e = .returned (.bool true) ∧ Below w.heap.size w w' := by
  have HP := hide (pack_any _ p3 3 3 _ (rowP_lit w p3 #[.int .u32 5, .int .u32 6, .int .u32 300] rfl (by decide) (fit_p (by decide)) 3 rfl _ rfl) rfl (by omega))
  rw [if_pos chk_p3, pack_p3] at HP
  have hs7 : (⟨t3.toArray⟩ : ByteArray).size = 7 := rfl
  have HU := hide (fun W => unpackS_any (⟨t3.toArray⟩ ++ ⟨#[122]⟩) W (by rw [ByteArray.size_append]; decide))
  have HT : Hid ((⟨t3.toArray⟩ ++ (⟨#[122]⟩ : ByteArray)).data.toList = t3 ++ [122]) := hide (by rw [ByteArray.data_append, Array.toList_append])
  rw [unhide HT] at HU
  have HK := hide (fun W => blocksS_any ⟨t3.toArray⟩ W (by decide))
  have HH := hide (fun W => hasS_any ⟨t3.toArray⟩ 300 W (by decide) (by decide))
  have HH7 := hide (fun W => hasS_any ⟨t3.toArray⟩ 7 W (by decide) (by decide))
  rw [show (⟨t3.toArray⟩ : ByteArray).data.toList = t3 from rfl] at HK HH HH7
  have HU4 := hide (fun W => unpackS_any ⟨#[3, 5, 3, 3]⟩ W (by decide))
  rw [show (⟨#[3, 5, 3, 3]⟩ : ByteArray).data.toList = [3, 5, 3, 3] from rfl] at HU4
  have HBL := hide (below_alloc w (.cells #[.int .u32 5, .int .u32 6, .int .u32 300] 31))
  go_enter Try.func6, Try.ntmps6
  go_wp2_with fail
  refine (unhide HP).mono ?_
  rintro e W1 ⟨rfl, hb⟩
  have HB1 := hide (belows' (unhide HBL) hb)
  clear hb HP HBL
  go_wp2_with fail
  refine (unhide HU _).mono ?_
  rintro e W2 ⟨h0, _, hb⟩
  obtain ⟨v, d, rfl, hown, hd⟩ := h0 read_t3z.2.1
  rw [read_t3z.1] at hown
  have HB2 := hide (belows' (unhide HB1) hb)
  have HRV := hide (rowG_of_own (Fit := fun n => n ≤ 4294967295) cells32_len hown (by decide) (fit_p (by decide)))
  obtain ⟨av, cv, hv, hcv⟩ := own_sliceG hown
  subst hv
  have hdz : d = ⟨#[122]⟩ := by
    apply ext_list
    rw [hd, read_t3z.2.2]
    rfl
  subst hdz
  clear hb HU HB1 hown hd HT
  go_wp2_with fail
  refine (unhide HK _).mono ?_
  rintro e W3 ⟨h0, _, hb⟩
  obtain ⟨vk, rfl, hown⟩ := h0 read_t3.2.1
  rw [read_t3.1] at hown
  have HB3 := hide (belows' (unhide HB2) hb)
  have HRV3 := hide ((unhide HRV).below hb)
  have HRK := hide (rowG_of_own (Fit := fun _ => True) cellsK_len hown (by decide) (fun _ _ => trivial))
  obtain ⟨ak, ck, hv, hck⟩ := own_sliceG hown
  subst hv
  clear hb HK HB2 HRV hown h0
  go_wp2_with fail
  refine (unhide HH _).mono ?_
  rintro e W4 ⟨h0, _, hb⟩
  have h0' := h0 read_t3.2.1
  rw [read_t3.1, show decide (300 ∈ flatB [(1, p3)]) = true by decide +kernel] at h0'
  subst h0'
  have HB4 := hide (belows' (unhide HB3) hb)
  have HRV4 := hide ((unhide HRV3).below hb)
  have HRK4 := hide ((unhide HRK).below hb)
  clear hb HH HB3 HRV3 HRK h0
  go_wp2_with fail
  refine (unhide HH7 _).mono ?_
  rintro e W5 ⟨h0, _, hb⟩
  have h0' := h0 read_t3.2.1
  rw [read_t3.1, show decide (7 ∈ flatB [(1, p3)]) = false by decide +kernel] at h0'
  subst h0'
  have HB5 := hide (belows' (unhide HB4) hb)
  have HRV5 := hide ((unhide HRV4).below hb)
  have HRK5 := hide ((unhide HRK4).below hb)
  clear hb HH7 HB4 HRV4 HRK4 h0
  go_wp2_with fail
  rw [show (⟨t3.toArray⟩ : ByteArray).extract 0 (min (4 : Int) 7).toNat = ⟨#[3, 5, 3, 3]⟩ by decide +kernel]
  refine (unhide HU4 _).mono ?_
  rintro e W6 ⟨_, h0, hb⟩
  have h0' := h0 (by rw [read_t34]; decide)
  rw [read_t34] at h0'
  subst h0'
  have HB6 := hide (belows' (unhide HB5) hb)
  have HRV6 := hide ((unhide HRV5).below hb)
  have HRK6 := hide ((unhide HRK5).below hb)
  clear hb HU4 HB5 HRV5 HRK5 h0
  have hb6 := below_alloc W6 (.cells #[.int .u32 5, .int .u32 6, .int .u32 300] 31)
  have HS := hide (same32_any _ _ p3 p3 _ ((unhide HRV6).below hb6) (rowP_lit W6 p3 #[.int .u32 5, .int .u32 6, .int .u32 300] rfl (by decide) (fit_p (by decide)) 3 rfl _ rfl))
  rw [decide_eq_true rfl] at HS
  have HB7 := hide (belows' (unhide HB6) hb6)
  have HRK7 := hide ((unhide HRK6).below hb6)
  clear hb6 HB6 HRK6
  have hse : (t3.toArray.toList == [3, 5, 3, 3, 0, 165, 2]) = true := by decide
  go_wp2_with fail
  refine (unhide HS).mono ?_
  rintro e W7 ⟨rfl, hb⟩
  have HB8 := hide (belows' (unhide HB7) hb)
  have HRK8 := hide ((unhide HRK7).below hb)
  clear hb HS HB7 HRK7 HRV6
  have hb8 := below_alloc W7 (.cells #[.int .u32 5, .int .u32 300, .int .i64 3, .int .i64 1] 38)
  have hlit : RowK (W7.alloc (.cells #[.int .u32 5, .int .u32 300, .int .i64 3, .int .i64 1] 38)) (.slice (some ⟨W7.heap.size, 0, none⟩) 1 1) [(1, p3)] := by
    refine ⟨_, _, rfl, by decide, fun _ _ => trivial, Or.inr ⟨W7.heap.size, 0, rfl, by simp, fun j u hj => ?_⟩⟩
    rw [Nat.zero_add, Blk.cell (Blk.new W7 38 _)]
    have : (flatG cellsK [(1, p3)]) = [.int .u32 5, .int .u32 300, .int .i64 3, .int .i64 1] := rfl
    rw [this] at hj
    simpa using hj
  have HSB := hide (sameB_one _ _ (1, p3) _ ((unhide HRK8).below hb8) hlit)
  have HB9 := hide (belows' (unhide HB8) hb8)
  clear hb8 hlit HRK8 HB8
  go_wp2_with fail
  refine (unhide HSB).mono ?_
  rintro e W8 ⟨rfl, hb⟩
  have HB10 := hide (belows' (unhide HB9) hb)
  clear hb HSB HB9
  go_wp2
  go_ret
  exact ⟨by simp, unhide HB10⟩
end Go.Proofs.Ytfjjigcghhohkaa
