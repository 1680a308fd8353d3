/-
  What the document's Check and power do (missiveref04), over this seat's program.
-/
import Derived.Test.YtmfkhbofmaonkaaDqd
set_option linter.unusedVariables false
set_option linter.unusedSimpArgs false
namespace Go.Proofs.Ytmfkhbofmaonkaa
open Go.RowKit Go.Proofs.Dsk

set_option maxHeartbeats 2000000 in
set_option maxRecDepth 100000 in
theorem refCheck_h0 (room fuse fault : Int) (down : Bool) (a : Option Addr) (n cap : Nat) (w : World) (f1 : -9223372036854775808 ≤ room) (f2 : room ≤ 9223372036854775807) (f3 : -9223372036854775808 ≤ fuse) (f4 : fuse ≤ 9223372036854775807) (f5 : -9223372036854775808 ≤ fault) (f6 : fault ≤ 9223372036854775807) (f7 : n ≤ 9223372036854775807)  (h0 : room < 0) :
    Calls Try.prog 20 #[.agg #[.int .i64 room, .slice a n cap, .int .i64 fuse, .int .i64 fault, .bool down]] w fun e w' => e = .returned (.int .i64 2) ∧ Below w.heap.size w w' := by
  have k0 := Blk.new w 24 #[.int .i64 room, .slice a n cap, .int .i64 fuse, .int .i64 fault, .bool down]
  have c0 := k0.cell 0
  have c1 := k0.cell 1
  have c2 := k0.cell 2
  have c3 := k0.cell 3
  simp only [List.getElem?_toArray, List.getElem?_cons_succ, List.getElem?_cons_zero] at c0 c1 c2 c3
  have HB := hide ((Below.refl w.heap.size w).alloc (Nat.le_refl _) (Obj.cells #[.int .i64 room, .slice a n cap, .int .i64 fuse, .int .i64 fault, .bool down] 24))
  clear k0
  have d0 : decide (room < 0) = true := decide_eq_true (by omega)
  go_enter Try.func20, Try.ntmps20
  go_wp2
  generalize w.alloc (Obj.cells #[.int .i64 room, .slice a n cap, .int .i64 fuse, .int .i64 fault, .bool down] 24) = W at *
  go_quiet (fail)
  go_wp2
  go_ret
  exact ⟨rfl, below_drN (unhide HB) _⟩

set_option maxHeartbeats 2000000 in
set_option maxRecDepth 100000 in
theorem refCheck_h1 (room fuse fault : Int) (down : Bool) (a : Option Addr) (n cap : Nat) (w : World) (f1 : -9223372036854775808 ≤ room) (f2 : room ≤ 9223372036854775807) (f3 : -9223372036854775808 ≤ fuse) (f4 : fuse ≤ 9223372036854775807) (f5 : -9223372036854775808 ≤ fault) (f6 : fault ≤ 9223372036854775807) (f7 : n ≤ 9223372036854775807) (h0 : 0 ≤ room) (h1 : room > 16777216) :
    Calls Try.prog 20 #[.agg #[.int .i64 room, .slice a n cap, .int .i64 fuse, .int .i64 fault, .bool down]] w fun e w' => e = .returned (.int .i64 2) ∧ Below w.heap.size w w' := by
  have k0 := Blk.new w 24 #[.int .i64 room, .slice a n cap, .int .i64 fuse, .int .i64 fault, .bool down]
  have c0 := k0.cell 0
  have c1 := k0.cell 1
  have c2 := k0.cell 2
  have c3 := k0.cell 3
  simp only [List.getElem?_toArray, List.getElem?_cons_succ, List.getElem?_cons_zero] at c0 c1 c2 c3
  have HB := hide ((Below.refl w.heap.size w).alloc (Nat.le_refl _) (Obj.cells #[.int .i64 room, .slice a n cap, .int .i64 fuse, .int .i64 fault, .bool down] 24))
  clear k0
  have d0 : decide (room < 0) = false := decide_eq_false (by omega)
  have d1 : decide (room > 16777216) = true := decide_eq_true (by omega)
  go_enter Try.func20, Try.ntmps20
  go_wp2
  generalize w.alloc (Obj.cells #[.int .i64 room, .slice a n cap, .int .i64 fuse, .int .i64 fault, .bool down] 24) = W at *
  go_quiet (fail)
  go_wp2
  go_ret
  exact ⟨rfl, below_drN (unhide HB) _⟩

set_option maxHeartbeats 2000000 in
set_option maxRecDepth 100000 in
theorem refCheck_h2 (room fuse fault : Int) (down : Bool) (a : Option Addr) (n cap : Nat) (w : World) (f1 : -9223372036854775808 ≤ room) (f2 : room ≤ 9223372036854775807) (f3 : -9223372036854775808 ≤ fuse) (f4 : fuse ≤ 9223372036854775807) (f5 : -9223372036854775808 ≤ fault) (f6 : fault ≤ 9223372036854775807) (f7 : n ≤ 9223372036854775807) (h0 : 0 ≤ room) (h1 : room ≤ 16777216) (h2 : 1024 < n) :
    Calls Try.prog 20 #[.agg #[.int .i64 room, .slice a n cap, .int .i64 fuse, .int .i64 fault, .bool down]] w fun e w' => e = .returned (.int .i64 2) ∧ Below w.heap.size w w' := by
  have k0 := Blk.new w 24 #[.int .i64 room, .slice a n cap, .int .i64 fuse, .int .i64 fault, .bool down]
  have c0 := k0.cell 0
  have c1 := k0.cell 1
  have c2 := k0.cell 2
  have c3 := k0.cell 3
  simp only [List.getElem?_toArray, List.getElem?_cons_succ, List.getElem?_cons_zero] at c0 c1 c2 c3
  have HB := hide ((Below.refl w.heap.size w).alloc (Nat.le_refl _) (Obj.cells #[.int .i64 room, .slice a n cap, .int .i64 fuse, .int .i64 fault, .bool down] 24))
  clear k0
  have d0 : decide (room < 0) = false := decide_eq_false (by omega)
  have d1 : decide (room > 16777216) = false := decide_eq_false (by omega)
  have d2 : decide ((n : Int) > 1024) = true := decide_eq_true (by omega)
  have d3 : decide (n > 1024) = true := decide_eq_true (by omega)
  have d4 : decide (1024 < n) = true := decide_eq_true (by omega)
  go_enter Try.func20, Try.ntmps20
  go_wp2
  generalize w.alloc (Obj.cells #[.int .i64 room, .slice a n cap, .int .i64 fuse, .int .i64 fault, .bool down] 24) = W at *
  go_quiet (fail)
  go_wp2
  go_ret
  exact ⟨rfl, below_drN (unhide HB) _⟩

set_option maxHeartbeats 2000000 in
set_option maxRecDepth 100000 in
theorem refCheck_h3 (room fuse fault : Int) (down : Bool) (a : Option Addr) (n cap : Nat) (w : World) (f1 : -9223372036854775808 ≤ room) (f2 : room ≤ 9223372036854775807) (f3 : -9223372036854775808 ≤ fuse) (f4 : fuse ≤ 9223372036854775807) (f5 : -9223372036854775808 ≤ fault) (f6 : fault ≤ 9223372036854775807) (f7 : n ≤ 9223372036854775807) (h0 : 0 ≤ room) (h1 : room ≤ 16777216) (h2 : n ≤ 1024) (h3 : fuse < -1) :
    Calls Try.prog 20 #[.agg #[.int .i64 room, .slice a n cap, .int .i64 fuse, .int .i64 fault, .bool down]] w fun e w' => e = .returned (.int .i64 2) ∧ Below w.heap.size w w' := by
  have k0 := Blk.new w 24 #[.int .i64 room, .slice a n cap, .int .i64 fuse, .int .i64 fault, .bool down]
  have c0 := k0.cell 0
  have c1 := k0.cell 1
  have c2 := k0.cell 2
  have c3 := k0.cell 3
  simp only [List.getElem?_toArray, List.getElem?_cons_succ, List.getElem?_cons_zero] at c0 c1 c2 c3
  have HB := hide ((Below.refl w.heap.size w).alloc (Nat.le_refl _) (Obj.cells #[.int .i64 room, .slice a n cap, .int .i64 fuse, .int .i64 fault, .bool down] 24))
  clear k0
  have d0 : decide (room < 0) = false := decide_eq_false (by omega)
  have d1 : decide (room > 16777216) = false := decide_eq_false (by omega)
  have d2 : decide ((n : Int) > 1024) = false := decide_eq_false (by omega)
  have d3 : decide (n > 1024) = false := decide_eq_false (by omega)
  have d4 : decide (1024 < n) = false := decide_eq_false (by omega)
  have d5 : decide (fuse < -1) = true := decide_eq_true (by omega)
  go_enter Try.func20, Try.ntmps20
  go_wp2
  generalize w.alloc (Obj.cells #[.int .i64 room, .slice a n cap, .int .i64 fuse, .int .i64 fault, .bool down] 24) = W at *
  go_quiet (fail)
  go_wp2
  go_ret
  exact ⟨rfl, below_drN (unhide HB) _⟩

set_option maxHeartbeats 2000000 in
set_option maxRecDepth 100000 in
theorem refCheck_h4 (room fuse fault : Int) (down : Bool) (a : Option Addr) (n cap : Nat) (w : World) (f1 : -9223372036854775808 ≤ room) (f2 : room ≤ 9223372036854775807) (f3 : -9223372036854775808 ≤ fuse) (f4 : fuse ≤ 9223372036854775807) (f5 : -9223372036854775808 ≤ fault) (f6 : fault ≤ 9223372036854775807) (f7 : n ≤ 9223372036854775807) (h0 : 0 ≤ room) (h1 : room ≤ 16777216) (h2 : n ≤ 1024) (h3 : -1 ≤ fuse) (h4 : fault < -1) :
    Calls Try.prog 20 #[.agg #[.int .i64 room, .slice a n cap, .int .i64 fuse, .int .i64 fault, .bool down]] w fun e w' => e = .returned (.int .i64 2) ∧ Below w.heap.size w w' := by
  have k0 := Blk.new w 24 #[.int .i64 room, .slice a n cap, .int .i64 fuse, .int .i64 fault, .bool down]
  have c0 := k0.cell 0
  have c1 := k0.cell 1
  have c2 := k0.cell 2
  have c3 := k0.cell 3
  simp only [List.getElem?_toArray, List.getElem?_cons_succ, List.getElem?_cons_zero] at c0 c1 c2 c3
  have HB := hide ((Below.refl w.heap.size w).alloc (Nat.le_refl _) (Obj.cells #[.int .i64 room, .slice a n cap, .int .i64 fuse, .int .i64 fault, .bool down] 24))
  clear k0
  have d0 : decide (room < 0) = false := decide_eq_false (by omega)
  have d1 : decide (room > 16777216) = false := decide_eq_false (by omega)
  have d2 : decide ((n : Int) > 1024) = false := decide_eq_false (by omega)
  have d3 : decide (n > 1024) = false := decide_eq_false (by omega)
  have d4 : decide (1024 < n) = false := decide_eq_false (by omega)
  have d5 : decide (fuse < -1) = false := decide_eq_false (by omega)
  have d6 : decide (fault < -1) = true := decide_eq_true (by omega)
  go_enter Try.func20, Try.ntmps20
  go_wp2
  generalize w.alloc (Obj.cells #[.int .i64 room, .slice a n cap, .int .i64 fuse, .int .i64 fault, .bool down] 24) = W at *
  go_quiet (fail)
  go_wp2
  go_ret
  exact ⟨rfl, below_drN (unhide HB) _⟩

theorem refCheck_any (d : Fs) (v : Value) (w : World) (hf : FitsFs d) (h : RowF w v d.files) :
    Calls Try.prog 20 #[fsV d v] w fun e w' => e = .returned (.int .i64 (if right d then 0 else 2)) ∧ Below w.heap.size w w' := by
  obtain ⟨a, cap, rfl, h63, _, _⟩ := id h
  obtain ⟨room, l, fuse, fault, down⟩ := d
  obtain ⟨⟨r1, r2⟩, ⟨f1, f2⟩, g1, g2⟩ := hf
  by_cases hh : headOk ⟨room, l, fuse, fault, down⟩ = true
  · have h5 := headOk_yes.1 hh
    exact refCheck_body room fuse fault down l a cap w h5.1 h5.2.1 h5.2.2.1 h5.2.2.2.1 h5.2.2.2.2 f2 g2 h
  · have hno : ¬ (0 ≤ room ∧ room ≤ 16777216 ∧ l.length ≤ 1024 ∧ -1 ≤ fuse ∧ -1 ≤ fault) := fun h => hh (headOk_yes.2 h)
    rw [right_head (by simpa using hh)]
    by_cases c0 : 0 ≤ room
    · by_cases c1 : room ≤ 16777216
      · by_cases c2 : l.length ≤ 1024
        · by_cases c3 : -1 ≤ fuse
          · by_cases c4 : -1 ≤ fault
            · exact absurd ⟨c0, c1, c2, c3, c4⟩ hno
            · exact refCheck_h4 room fuse fault down a l.length cap w r1 r2 f1 f2 g1 g2 h63 c0 c1 c2 c3 (by omega)
          · exact refCheck_h3 room fuse fault down a l.length cap w r1 r2 f1 f2 g1 g2 h63 c0 c1 c2 (by omega)
        · exact refCheck_h2 room fuse fault down a l.length cap w r1 r2 f1 f2 g1 g2 h63 c0 c1 (by omega)
      · exact refCheck_h1 room fuse fault down a l.length cap w r1 r2 f1 f2 g1 g2 h63 c0 (by omega)
    · exact refCheck_h0 room fuse fault down a l.length cap w r1 r2 f1 f2 g1 g2 h63 (by omega)

set_option maxHeartbeats 1000000 in
set_option maxRecDepth 100000 in
theorem refPower_any (d : Fs) (v : Value) (w : World) (hf : FitsFs d) (h : RowF w v d.files) :
    Calls Try.prog 39 #[fsV d v] w fun e w' => e = .returned (.int .i64 (ready d : Nat)) ∧ Below w.heap.size w w' := by
  have HK := hide (fun (w : World) (h : RowF w v d.files) => refCheck_any d v w hf h)
  have HR := hide (h.below ((Below.refl _ w).alloc (Nat.le_refl _) (Obj.cells #[.int .i64 d.room, v, .int .i64 d.fuse, .int .i64 d.fault, .bool d.down] 24)))
  obtain ⟨a, cap, rfl, h63, hff, hc⟩ := h
  clear hc hff
  obtain ⟨rd, hrd⟩ : ∃ rd, rd = ready d := ⟨_, rfl⟩
  have HRD := hide hrd
  rw [← hrd]
  obtain ⟨room, files, fuse, fault, down⟩ := d
  simp only [fsV] at *
  unfold ready at hrd
  cases hr : right ⟨room, files, fuse, fault, down⟩ with
  | false =>
    rw [hr] at hrd HK
    have hk := fun w h => (unhide HK) w h
    simp only [Bool.false_eq_true, if_false, if_true] at hrd hk
    have HE := hide hrd
    clear hrd hr HK
    go_enter Try.func39, Try.ntmps39
    go_wp2_with fail
    refine (hk _ (unhide HR)).mono ?_
    rintro e w1 ⟨rfl, b1⟩
    go_wp2
    go_ret
    exact ⟨by rw [unhide HE]; rfl, below_alloc' b1⟩
  | true =>
    rw [hr] at hrd HK
    have hk := fun w h => (unhide HK) w h
    simp only [if_true, Bool.true_eq_false, if_false] at hrd hk
    have hbx : (w.alloc (Obj.cells #[.int .i64 room, .slice a files.length cap, .int .i64 fuse, .int .i64 fault, .bool down] 24)).cell? ⟨w.heap.size, 4, none⟩ = some (.bool down) := by simp
    have HB := hide hbx
    have hszz : w.heap.size < (w.alloc (Obj.cells #[.int .i64 room, .slice a files.length cap, .int .i64 fuse, .int .i64 fault, .bool down] 24)).heap.size := by simp
    cases down with
    | false =>
      simp only [Bool.false_eq_true, if_false] at hrd
      have HE := hide hrd
      clear hrd hr HK hbx
      go_enter Try.func39, Try.ntmps39
      go_wp2_with fail
      refine (hk _ (unhide HR)).mono ?_
      rintro e w1 ⟨rfl, b1⟩
      have hd := (b1.cell (p := ⟨w.heap.size, 4, none⟩) hszz).trans (unhide HB)
      go_wp2
      go_ret
      exact ⟨by rw [unhide HE]; rfl, below_alloc' b1⟩
    | true =>
      simp only [if_true] at hrd
      have HE := hide hrd
      clear hrd hr HK hbx
      go_enter Try.func39, Try.ntmps39
      go_wp2_with fail
      refine (hk _ (unhide HR)).mono ?_
      rintro e w1 ⟨rfl, b1⟩
      have hd := (b1.cell (p := ⟨w.heap.size, 4, none⟩) hszz).trans (unhide HB)
      go_wp2
      go_ret
      exact ⟨by rw [unhide HE]; rfl, below_alloc' b1⟩


end Go.Proofs.Ytmfkhbofmaonkaa
