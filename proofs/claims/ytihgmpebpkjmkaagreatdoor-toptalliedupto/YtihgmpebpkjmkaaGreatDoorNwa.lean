/-
  What a span's ends, order and Has do, over this seat's program.
-/
import Derived.Test.YtihgmpebpkjmkaaGreatDoorRwg
import Derived.Test.YtihgmpebpkjmkaaGreatDoorNsb
import Derived.Test.YtihgmpebpkjmkaaGreatDoorNsc
import Derived.Deep.QuietTactic
import Derived.BigQuiet
import Derived.WalkLawsBesides
import Derived.Deep.RegionWith
import Derived.Deep.RegionHeld3
set_option linter.unusedVariables false
namespace Go.Proofs.YtihgmpebpkjmkaaGreatDoor
open Go.RowKit Go.Proofs.Nst

/-- The cells of a span, and slices of spans. -/
def cellsS (s : Sp) : List Value := [.int .u32 (s.1 : Int), .int .u32 (s.2 : Int)]
theorem cellsS_len (s : Sp) : (cellsS s).length = 2 := rfl
def FitS (s : Sp) : Prop := s.1 ≤ 4294967295 ∧ s.2 ≤ 4294967295
def RowSp (w : World) (v : Value) (l : List Sp) : Prop := RowG cellsS FitS w v l
theorem RowSp.below {w w' : World} {v : Value} {l : List Sp} (h : RowSp w v l) (hb : Below w.heap.size w w') : RowSp w' v l := RowG.below h hb

theorem below_alloc0 (w : World) (o : Obj) : Below w.heap.size w (w.alloc o) := (Below.refl _ w).alloc (Nat.le_refl _) _

set_option maxHeartbeats 400000 in
theorem end_any (f t m n : Nat) (w : World) :
    Calls Tryz.prog 74 #[.agg #[.int .u32 (f : Int), .int .u32 (t : Int), .int .u32 (m : Int)], .int .u32 (n : Int)] w fun e w' => e = .returned (.int .u32 (endN m n : Int)) ∧ Below w.heap.size w w' := by
  by_cases h : n = 0
  · subst h
    go_enter Tryz.func74, Tryz.ntmps74
    go_wp2
    go_ret
    exact ⟨rfl, below_alloc0 _ _⟩
  · have hb : ((n : Int) == 0) = false := by simp; omega
    have he : endN m n = n := by unfold endN; rw [if_neg h]
    rw [he]
    clear h he
    go_enter Tryz.func74, Tryz.ntmps74
    go_wp2
    go_ret
    exact ⟨rfl, below_alloc0 _ _⟩

set_option maxHeartbeats 1000000 in
set_option maxRecDepth 100000 in
theorem inOrder_any (f t m : Nat) (w : World) :
    Calls Tryz.prog 52 #[.agg #[.int .u32 (f : Int), .int .u32 (t : Int), .int .u32 (m : Int)]] w fun e w' => e = .returned (.agg #[.int .u32 ((ordS m (f, t)).1 : Int), .int .u32 ((ordS m (f, t)).2 : Int)]) ∧ Below w.heap.size w w' := by
  have HE1 := hide (fun W => end_any f t m f W)
  have HE2 := hide (fun W => end_any f t m t W)
  have HO : Hid (ordS m (f, t) = (min (endN m f) (endN m t), max (endN m f) (endN m t))) := hide rfl
  generalize endN m f = x at HE1 HO
  generalize endN m t = y at HE2 HO
  go_enter Tryz.func52, Tryz.ntmps52
  go_wp2
  obtain ⟨W0, hW0⟩ : ∃ W0, W0 = (w.alloc (.cells #[.int .u32 (f : Int), .int .u32 (t : Int), .int .u32 (m : Int)] 105)).alloc (.cells #[.int .u32 0, .int .u32 0] 79) := ⟨_, rfl⟩
  have HCC : Hid (∀ W', Below W0.heap.size W0 W' → W'.cell? ⟨w.heap.size, 0, none⟩ = some (.int .u32 (f : Int)) ∧ W'.cell? ⟨w.heap.size, 1, none⟩ = some (.int .u32 (t : Int)) ∧ W'.cell? ⟨w.heap.size, 2, none⟩ = some (.int .u32 (m : Int))) := hide (fun W' h => by
    have hb : Blk W0 w.heap.size 105 #[.int .u32 (f : Int), .int .u32 (t : Int), .int .u32 (m : Int)] := by rw [hW0]; exact (Blk.new w _ _).below (below_alloc0 _ _)
    have hb' := hb.below h
    exact ⟨Blk.cell hb' 0, Blk.cell hb' 1, Blk.cell hb' 2⟩)
  have HZ : Hid (W0.heap.size = w.heap.size + 2) := hide (by rw [hW0]; simp)
  have HB0 : Hid (Below w.heap.size w W0) := hide (by rw [hW0]; exact ((Below.refl _ w).alloc (Nat.le_refl _) _).alloc (by simp) _)
  rw [← hW0]
  have HR0 : Hid (Blk W0 (w.heap.size + 1) 79 #[.int .u32 0, .int .u32 0]) := hide (by rw [hW0]; have := Blk.new (w.alloc (.cells #[.int .u32 (f : Int), .int .u32 (t : Int), .int .u32 (m : Int)] 105)) 79 #[.int .u32 0, .int .u32 0]; rw [World.size_alloc] at this; exact this)
  clear hW0
  go_region_held3 (fun w' => w'.cell? ⟨w.heap.size, 0, none⟩ = some (.int .u32 (f : Int)) ∧ w'.cell? ⟨w.heap.size, 1, none⟩ = some (.int .u32 (t : Int)) ∧ w'.cell? ⟨w.heap.size, 2, none⟩ = some (.int .u32 (m : Int))) (first | exact unhide HCC _ b2 | exact unhide HCC _ b1 | exact unhide HCC _ (below_drewN (Below.refl _ _) _) | exact unhide HCC _ (Below.refl _ _) | go_keep) (first
    | (go_at_call_of 74 (Value.int IntKind.u32 (f : Int)); refine (unhide HE1 _).mono ?_; rintro e x1 ⟨rfl, b1⟩; have b1 := below_drew0 b1)
    | (go_at_call_of 74 (Value.int IntKind.u32 (t : Int)); refine (unhide HE2 _).mono ?_; rintro e x2 ⟨rfl, b2⟩; have b2 := belows' b1 b2))
  have hr := (unhide HR0).below b2
  have c0 : x2.cell? ⟨w.heap.size + 1, 0, none⟩ = some (.int .u32 0) := Blk.cell hr 0
  have c1 : x2.cell? ⟨w.heap.size + 1, 1, none⟩ = some (.int .u32 0) := Blk.cell hr 1
  have f0 : x2.frozen? ⟨w.heap.size + 1, 0, none⟩ = false := Blk.frozen hr 0
  have f1 : x2.frozen? ⟨w.heap.size + 1, 1, none⟩ = false := Blk.frozen hr 1
  have hB2 : Below w.heap.size w x2 := belows' (unhide HB0) b2
  have HFIN : Hid (∀ u v : Value, Below w.heap.size w ((x2.setCell ⟨w.heap.size + 1, 0, none⟩ u).setCell ⟨w.heap.size + 1, 1, none⟩ v)) := hide (fun u v => (hB2.setCell (p := ⟨w.heap.size + 1, 0, none⟩) (by show w.heap.size ≤ w.heap.size + 1; omega) _).setCell (p := ⟨w.heap.size + 1, 1, none⟩) (by show w.heap.size ≤ w.heap.size + 1; omega) _)
  clear b1 b2 hB2 hr HCC HB0 HR0 HZ
  go_wp2
  (try simp only [Exit.inBlock, Exit.then])
  refine bodyPost_ret (v := .agg #[.int .u32 (min (x : Int) (y : Int)), .int .u32 (max (x : Int) (y : Int))]) ?_ rfl ⟨?_, unhide HFIN _ _⟩
  · rw [results_cell rfl]
    go_simp
  · have h1 : ((min x y : Nat) : Int) = min (x : Int) (y : Int) := by omega
    have h2 : ((max x y : Nat) : Int) = max (x : Int) (y : Int) := by omega
    rw [unhide HO]
    simp only
    rw [h1, h2]
end Go.Proofs.YtihgmpebpkjmkaaGreatDoor
