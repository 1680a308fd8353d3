/-
  What (dict.entry).copied does, over this seat's program.
-/
import Derived.Test.YtmadjiiomjlnaaaDop
import Derived.Deep.RegionWith
import Derived.BigCall
set_option linter.unusedVariables false
namespace Go.Proofs.Ytmadjiiomjlnaaa
open Go.RowKit Go.Proofs.Num Go.Proofs.Dct

/-- What a copy's two boxes hold. -/
structure Cpd (W : World) (b : Nat) (k : Nat) (d : ByteArray) : Prop where
  c0 : W.cell? ⟨b, 0, none⟩ = some (.int .u64 (k : Int))
  c1 : W.cell? ⟨b, 1, none⟩ = some (.string d)
  f0 : W.frozen? ⟨b + 1, 0, none⟩ = false
  f1 : W.frozen? ⟨b + 1, 1, none⟩ = false
  lt : b + 1 < W.heap.size
  e0 : W.cell? ⟨b + 1, 0, none⟩ = some (.int .u64 0)
  e1 : W.cell? ⟨b + 1, 1, none⟩ = some (.string ⟨#[]⟩)
theorem Cpd.below {W W' : World} {b k : Nat} {d : ByteArray} (h : Cpd W b k d) (hb : Below W.heap.size W W') : Cpd W' b k d := by
  obtain ⟨c0, c1, f0, f1, lt, e0, e1⟩ := h
  have hs := hb.size
  have hfz : ∀ i, W'.frozen? ⟨b + 1, i, none⟩ = W.frozen? ⟨b + 1, i, none⟩ := fun i => by
    unfold World.frozen?
    rw [hb.block (b + 1) lt]
  refine ⟨?_, ?_, ?_, ?_, by omega, ?_, ?_⟩
  · rw [hb.cell (p := ⟨b, 0, none⟩) (by simp; omega)]; exact c0
  · rw [hb.cell (p := ⟨b, 1, none⟩) (by simp; omega)]; exact c1
  · rw [hfz]; exact f0
  · rw [hfz]; exact f1
  · rw [hb.cell (p := ⟨b + 1, 0, none⟩) lt]; exact e0
  · rw [hb.cell (p := ⟨b + 1, 1, none⟩) lt]; exact e1

set_option maxHeartbeats 1000000 in
set_option maxRecDepth 100000 in
theorem copied_any (k n : Nat) (d : ByteArray) (w : World) (hd : d.size ≤ 140737488355328) :
    Calls Try.prog 25 #[.agg #[.int .u64 (k : Int), .string d, .int .u64 (n : Int)]] w fun e w' => e = .returned (.agg #[.int .u64 (k : Int), .string d]) ∧ Below w.heap.size w w' := by
  have HC := hide (fun W => clone_any d W (by omega))
  have hA : Below w.heap.size w ((w.alloc (.cells #[.int .u64 (k : Int), .string d, .int .u64 (n : Int)] 57)).alloc (.cells #[.int .u64 0, .string ⟨#[]⟩] 41)) := ((Below.refl _ w).alloc (Nat.le_refl _) _).alloc (by simp) _
  have hB1 := Blk.new w 57 #[.int .u64 (k : Int), .string d, .int .u64 (n : Int)]
  have hB2 := Blk.new (w.alloc (.cells #[.int .u64 (k : Int), .string d, .int .u64 (n : Int)] 57)) 41 #[.int .u64 0, .string ⟨#[]⟩]
  have hB1' := hB1.below ((Below.refl _ (w.alloc (.cells #[.int .u64 (k : Int), .string d, .int .u64 (n : Int)] 57))).alloc (Nat.le_refl _) (.cells #[.int .u64 0, .string ⟨#[]⟩] 41))
  rw [show (w.alloc (.cells #[.int .u64 (k : Int), .string d, .int .u64 (n : Int)] 57)).heap.size = w.heap.size + 1 by simp] at hB2
  have hT : Cpd ((w.alloc (.cells #[.int .u64 (k : Int), .string d, .int .u64 (n : Int)] 57)).alloc (.cells #[.int .u64 0, .string ⟨#[]⟩] 41)) w.heap.size k d := ⟨(hB1'.cell 0).trans rfl, (hB1'.cell 1).trans rfl, hB2.frozen 0, hB2.frozen 1, hB2.lt, (hB2.cell 0).trans rfl, (hB2.cell 1).trans rfl⟩
  have HA := hide hA
  have HT := hide hT
  clear hA hB1 hB2 hB1' hT
  go_enter Try.func25, Try.ntmps25
  go_wp2
  generalize (w.alloc (.cells #[.int .u64 (k : Int), .string d, .int .u64 (n : Int)] 57)).alloc (.cells #[.int .u64 0, .string ⟨#[]⟩] 41) = u at HA HT ⊢
  obtain ⟨c0, c1, f0, f1, lt, e0, e1⟩ := unhide HT
  go_region_with (go_at_call 26; refine (unhide HC _).mono ?_; rintro e w2 ⟨rfl, b2⟩; have T2 : Cpd w2 w.heap.size k d := (by first | exact Cpd.below (unhide HT) b2 | exact Cpd.below (W := u.drew) ⟨c0, c1, f0, f1, lt, e0, e1⟩ b2); have ⟨y0, y1, g0, g1, lt2, z0, z1⟩ := T2)
  all_goals
    have HB2 := hide (belows' (unhide HA) (show Below u.heap.size u w2 from ⟨b2.os, b2.tape, b2.output, b2.size, b2.block⟩))
    clear b2 HT HC T2
    (try go_wp2)
    (try simp only [Exit.inBlock, Exit.then])
    refine bodyPost_ret (v := .agg #[.int .u64 (k : Int), .string d]) ?_ rfl ⟨rfl, ((unhide HB2).setCell (p := ⟨w.heap.size + 1, 0, none⟩) (by simp) _).setCell (p := ⟨w.heap.size + 1, 1, none⟩) (by simp) _⟩
    rw [results_cell rfl]
    go_simp
end Go.Proofs.Ytmadjiiomjlnaaa
