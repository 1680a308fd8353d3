/-
  What slices.Chunk's function hands over, over this seat's program.
-/
import Derived.Test.YtfjjigcghhohkaaPng
set_option linter.unusedVariables false
namespace Go.Proofs.Ytfjjigcghhohkaa
open Go.RowKit Go.Shelf Go.Proofs.Num Go.Proofs.Dct Go.Proofs.Pna
attribute [local go_sem] Oper.semAt_some

theorem addr_add (g off m : Nat) : Addr.add ⟨g, off, none⟩ m = ⟨g, off + m, none⟩ := by unfold Addr.add; by_cases h0 : m = 0 <;> simp [h0]
set_option maxRecDepth 100000 in
theorem from32_run (b0 off T cap i : Nat) (x : Int) (hx : x = (i : Int)) (hi : i < T) (hc : T ≤ cap) (w : World) :
    (Instr.slice 22 (.slice (some ⟨b0, off, none⟩) T cap) (some (.int .i64 x)) none none).run Try.prog w = .ok (.slice (some ⟨b0, off + i, none⟩) (T - i) (cap - i)) w := by
  subst hx
  rw [run_slice_l (P := Try.prog) w 22 (some ⟨b0, off, none⟩) T cap (by kernel_rfl) .i64 i (by omega) (by omega)]
  obtain ⟨i0, h1, hz0, hz1, hz2⟩ := info_parts u32InfoN
  have he : Try.prog.elem 22 = 31 := by kernel_rfl
  have hne : ¬ cap = i := by omega
  rw [he]
  go_simp
set_option maxRecDepth 100000 in
theorem cut3_run (b0 off T cap i e m : Nat) (x y z : Int) (hx : x = (i : Int)) (hy : y = (e : Int)) (hz : z = (e : Int)) (he : e = i + m) (hm : 1 ≤ m) (hc : e ≤ cap) (w : World) :
    (Instr.slice 22 (.slice (some ⟨b0, off, none⟩) T cap) (some (.int .i64 x)) (some (.int .i64 y)) (some (.int .i64 z))).run Try.prog w = .ok (.slice (some ⟨b0, off + i, none⟩) m m) w := by
  subst hx hy hz
  rw [run_slice_lhm (P := Try.prog) w 22 (some ⟨b0, off, none⟩) T cap (by kernel_rfl) .i64 .i64 .i64 i e e (by omega) (by omega) (by omega) (by omega)]
  obtain ⟨i0, h1, hz0, hz1, hz2⟩ := info_parts u32InfoN
  have hel : Try.prog.elem 22 = 31 := by kernel_rfl
  have hne : ¬ e = i := by omega
  have hs : e - i = m := by omega
  rw [hel]
  go_simp
  constructor <;> omega

theorem cell_same {W W' : World} {k i : Nat} (h : W'.heap[k]? = W.heap[k]?) : W'.cell? ⟨k, i, none⟩ = W.cell? ⟨k, i, none⟩ := by
  unfold World.cell?
  simp only [h]
theorem range_prefix {i N : Nat} (h : i ≤ N) : List.range i <+: List.range N := by
  have : List.range i = (List.range N).take i := by rw [List.take_range, Nat.min_eq_left h]
  rw [this]
  exact List.take_prefix _ _
set_option maxHeartbeats 1000000 in
theorem chunk_any (a : Option Addr) (n cap : Nat) (w : World) :
    Calls Try.prog 22 #[.slice a n cap, .int .i64 32] w fun e w' => e = .returned (.func (.func 35) #[] #[.pointer (some ⟨w.heap.size, 0, none⟩), .pointer (some ⟨w.heap.size + 1, 0, none⟩)]) ∧ w' = (w.alloc (.cells #[.slice a n cap] 22)).alloc (.cells #[.int .i64 32] 3) := by
  go_enter Try.func22, Try.ntmps22
  go_wp2
  go_ret
  exact ⟨rfl, rfl⟩

/-- The i-th piece of at most 32 numbers. -/
def chunkV (b0 off T i : Nat) : Value := .slice (some ⟨b0, off + 32 * i, none⟩) (min 32 (T - 32 * i)) (min 32 (T - 32 * i))

set_option maxHeartbeats 4000000 in
set_option maxRecDepth 100000 in
theorem chunk_gives (a : Option Addr) (b0 off T cap : Nat) (w : World) (n n0 Bs : Nat) (hn : 1 ≤ n) (ha : a = some ⟨b0, off, none⟩ ∨ T = 0) (hT : T ≤ 65536) (hc : T ≤ cap) (hbs : w.cell? ⟨Bs, 0, none⟩ = some (.slice a T cap)) (hbn : w.cell? ⟨Bs + 1, 0, none⟩ = some (.int .i64 32)) (hlt : Bs + 1 < w.heap.size) :
    GivesB Fence.wide n Try.prog 35 #[.pointer (some ⟨Bs, 0, none⟩), .pointer (some ⟨Bs + 1, 0, none⟩)] (fun i => #[chunkV b0 off T i]) (fun _ _ _ => True) n0 Bs (fun k => k = Bs ∨ k = Bs + 1) (fun xs => xs = List.range ((T + 31) / 32)) (fun xs => xs <+: List.range ((T + 31) / 32)) (fun _ _ => True) w := by
  intro l J M W hW hJ hm ho hY h0
  have HJ := hide hJ
  have HM := hide hm
  have HY := hide hY
  have H0 := hide h0
  have hls : W.cell? ⟨Bs, 0, none⟩ = some (.slice a T cap) := (hW.cell (p := ⟨Bs, 0, none⟩) (by show Bs < _; omega)).trans hbs
  have hln : W.cell? ⟨Bs + 1, 0, none⟩ = some (.int .i64 32) := (hW.cell (p := ⟨Bs + 1, 0, none⟩) hlt).trans hbn
  have hz : Bs + 1 < W.heap.size := Nat.lt_of_lt_of_le hlt hW.size
  clear hJ hm ho hY h0 hW hbs hbn hlt
  refine callsIn_of_wp Try.func35 rfl trivial ?_ rfl
  simp only [Try.ntmps35, List.size_toArray, List.length_cons, List.length_nil, Nat.reduceAdd, Nat.reduceSub, Array.replicate_succ, Array.replicate_zero, List.push_toArray, List.append_toArray, List.nil_append, List.cons_append]
  gi_wp2
  gi_loopw [4, 5] (fun z _ wr => ∃ i : Nat, z = .int .i64 ((32 * i : Nat) : Int) ∧ i ≤ (T + 31) / 32 ∧ wr.cell? ⟨Bs, 0, none⟩ = some (.slice a T cap) ∧ wr.cell? ⟨Bs + 1, 0, none⟩ = some (.int .i64 32) ∧ Bs + 1 < wr.heap.size ∧ Hid (J (List.range i) wr)) (fun z _ _ => match z with | .int _ t => 70000 - t.toNat | _ => 0)
  case atStart => exact ⟨0, rfl, Nat.zero_le _, hls, hln, hz, H0⟩
  case round =>
    clear hls hln hz H0
    obtain ⟨i, rfl, hi, hls, hln, hz, HJ0⟩ := hrel
    by_cases hlt : 32 * i < T
    · have hlt1 : ((32 * i : Nat) : Int) < (T : Int) := by omega
      have ha' : a = some ⟨b0, off, none⟩ := by rcases ha with h | h; exact h; omega
      subst ha'
      obtain ⟨P, hP⟩ : ∃ P, P = 32 * i := ⟨_, rfl⟩
      obtain ⟨m, hmm⟩ : ∃ m, m = min 32 (T - P) := ⟨_, rfl⟩
      have HCV : Hid (chunkV b0 off T i = .slice (some ⟨b0, off + P, none⟩) m m) := hide (by unfold chunkV; rw [hmm, hP])
      rw [← hP] at hlt hlt1 ⊢
      have hm1 : 1 ≤ m := by omega
      have hm32 : m ≤ 32 := by omega
      have hPm : P + m ≤ T := by omega
      have hmin : min (32 : Int) ((T - P : Nat) : Int) = (m : Int) := by omega
      have hfr := fun W => from32_run b0 off T cap P (P : Int) rfl hlt hc W
      have hc3 := fun W => cut3_run b0 off T cap P (P + m) m (P : Int) ((P : Int) + (m : Int)) ((P : Int) + (m : Int)) rfl (by omega) (by omega) rfl hm1 (by omega) W
      obtain ⟨fn1, tm1, as1, bo1, hy1, hR1⟩ := unhide HY (List.range i) i wr.drew (unhide HJ _ _ _ (unhide HJ0) ⟨rfl, rfl, rfl, Nat.le_refl _, fun _ _ _ => rfl⟩) trivial (by rw [← List.range_succ]; exact range_prefix (by omega))
      rw [unhide HCV] at hy1
      have HPI := hide hP
      have HMM := hide hmm
      clear hP hmm hlt1 HCV
      have hlt1 : (P : Int) < (T : Int) := by omega
      have hTP : ((T - P : Nat) : Int) = ((T - P : Nat) : Int) := rfl
      clear hTP
      have HJ1 := hide (unhide HJ _ _ _ (unhide HJ0) (show wr.grownBy wr.drew (some Bs) from ⟨rfl, rfl, rfl, Nat.le_refl _, fun _ _ _ => rfl⟩))
      gi_wp2_with fail
      gi_region
      all_goals
        gi_wp2_with fail
        refine hR1.mono ?_
        rintro e wY ⟨rfl, hJ1, hk1⟩
        have HJY := hide hJ1
        have hls2 : wY.cell? ⟨Bs, 0, none⟩ = some (.slice (some ⟨b0, off, none⟩) T cap) := (cell_same (hk1.block Bs (show Bs < wr.heap.size by omega) (fun h => (unhide HM _ _ _ (unhide HJ1) h).2.2 (.inl rfl)))).trans hls
        have hln2 : wY.cell? ⟨Bs + 1, 0, none⟩ = some (.int .i64 32) := (cell_same (hk1.block (Bs + 1) hz (fun h => (unhide HM _ _ _ (unhide HJ1) h).2.2 (.inr rfl)))).trans hln
        have hz2 : Bs + 1 < wY.heap.size := Nat.lt_of_lt_of_le hz hk1.size
        clear hJ1 hk1 hy1 hR1 HJ1 HJ0 hls hln
        gi_wp2
        go_roundw
        case rel => exact ⟨i + 1, by have := unhide HPI; congr 1; omega, by have := unhide HPI; omega, hls2, hln2, hz2, by rw [List.range_succ]; exact HJY⟩
        case measure => simp only []; omega
    · have hlt1 : ¬ ((32 * i : Nat) : Int) < (T : Int) := by omega
      have hie : i = (T + 31) / 32 := by omega
      subst hie
      gi_wp2
      go_end0
      exact ⟨⟨_, rfl⟩, unhide HJ0⟩
end Go.Proofs.Ytfjjigcghhohkaa
