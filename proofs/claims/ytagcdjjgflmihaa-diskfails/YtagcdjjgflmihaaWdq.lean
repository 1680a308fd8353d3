/-
  What missivelaw04.DiskFails does, over this seat's program: it answers true.
-/
import Derived.Test.YtagcdjjgflmihaaWdo
import Derived.Test.YtagcdjjgflmihaaWdp
set_option linter.unusedVariables false
set_option linter.unusedSimpArgs false
namespace Go.Proofs.Ytagcdjjgflmihaa
open Go.RowKit Go.Proofs.Dsk


set_option maxHeartbeats 4000000 in
set_option maxRecDepth 100000 in
theorem diskFails_a (room fuse fault : Int) (down : Bool) (files : List File) (v : Value) (name to data : ByteArray) (w : World) (hfit : FitAll ⟨room, files, fuse, fault, down⟩) (h : RowF w v files) (hfu : 0 ≤ fuse) (hr : right ⟨room, files, 3, 0, down⟩ = false) :
    Calls Try.prog 6 #[fsV ⟨room, files, fuse, fault, down⟩ v, .string name, .string to, .string data] w fun e w' => e = .returned (.bool true) ∧ Below w.heap.size w w' := by
  have hfit1 : FitsFs ⟨room, files, 3, 0, down⟩ := ⟨hfit.1.1, ⟨by show (-9223372036854775808 : Int) ≤ 3; have : -9223372036854775808 ≤ fuse := hfit.1.2.1.1; omega, by show (3 : Int) ≤ 9223372036854775807; have : fuse ≤ 9223372036854775807 := hfit.1.2.1.2; omega⟩, ⟨by show (-9223372036854775808 : Int) ≤ 0; omega, by show (0 : Int) ≤ 9223372036854775807; omega⟩⟩
  have HCK := hide (fun (X : World) (hX : RowF X v files) => check_any ⟨room, files, 3, 0, down⟩ v X hfit1 hX)
  rw [hr] at HCK
  have HLV := hide (fun X => lives_any X)
  have hb0 := (Below.refl w.heap.size w).alloc (Nat.le_refl _) (Obj.cells #[.int .i64 room, v, .int .i64 fuse, .int .i64 fault, .bool down] 24)
  have k0 := Blk.new w 24 #[.int .i64 room, v, .int .i64 fuse, .int .i64 fault, .bool down]
  have HR := hide (h.below hb0)
  obtain ⟨a, cap, hv, h63, _, _⟩ := id h
  subst hv
  obtain ⟨N, hN⟩ : ∃ N, files.length = N := ⟨_, rfl⟩
  rw [hN] at k0 HR h63 hb0 HCK ⊢
  have K := hide k0
  have BX := hide hb0
  clear k0 hb0 hN h hr hfit hfit1
  simp only [fsV, if_true, Bool.false_eq_true, if_false] at HCK ⊢
  go_enter Try.func6, Try.ntmps6
  go_wp2_with fail
  refine (unhide HLV _).mono ?_
  rintro e w1 ⟨rfl, bX⟩
  have k1 := (unhide K).below bX
  have R1 := (unhide HR).below bX
  have BX1 := belows (unhide BX) bX
  have c0 := k1.cell 0
  have c1 := k1.cell 1
  have c2 := k1.cell 2
  have c3 := k1.cell 3
  have c4 := k1.cell 4
  have f2 := k1.frozen 2
  have f3 := k1.frozen 3
  simp only [List.getElem?_toArray, List.getElem?_cons_succ, List.getElem?_cons_zero] at c0 c1 c2 c3 c4
  have K1 : Hid (Blk ((w1.setCell ⟨w.heap.size, 3, none⟩ (.int .i64 0)).setCell ⟨w.heap.size, 2, none⟩ (.int .i64 3)) w.heap.size 24 #[.int .i64 room, .slice a N cap, .int .i64 3, .int .i64 0, .bool down]) := hide ((k1.set 3 (.int .i64 0)).set 2 (.int .i64 3))
  have BY := hide ((BX1.setCell (p := ⟨w.heap.size, 3, none⟩) (Nat.le_refl _) (.int .i64 0)).setCell (p := ⟨w.heap.size, 2, none⟩) (Nat.le_refl _) (.int .i64 3))
  have RY : Hid (RowF ((w1.setCell ⟨w.heap.size, 3, none⟩ (.int .i64 0)).setCell ⟨w.heap.size, 2, none⟩ (.int .i64 3)) (.slice a N cap) files) := hide (rowF_set (rowF_set R1 k1 (fs_notext _ _ _ _ _ _ _) 3 (.int .i64 0)) (k1.set 3 (.int .i64 0)) (fs_notext _ _ _ _ _ _ _) 2 (.int .i64 3))
  clear k1 R1 BX1 bX K HR BX HLV
  go_wp2_with fail
  refine (unhide HCK _ (unhide RY)).mono ?_
  rintro e w2 ⟨rfl, bX⟩
  clear c0 c1 c2 c3 c4 f2 f3
  have c4 := ((unhide K1).below bX).cell 4
  simp only [List.getElem?_toArray, List.getElem?_cons_succ, List.getElem?_cons_zero] at c4
  have BZ := hide (belows (unhide BY) bX)
  clear bX K1 RY BY HCK
  go_wp2
  go_ret
  exact ⟨rfl, unhide BZ⟩

set_option maxHeartbeats 4000000 in
set_option maxRecDepth 100000 in
theorem diskFails_b (room fuse fault : Int)  (files : List File) (v : Value) (name to data : ByteArray) (w : World) (hfit : FitAll ⟨room, files, fuse, fault, true⟩) (h : RowF w v files) (hfu : 0 ≤ fuse) (hr : right ⟨room, files, 3, 0, true⟩ = true) :
    Calls Try.prog 6 #[fsV ⟨room, files, fuse, fault, true⟩ v, .string name, .string to, .string data] w fun e w' => e = .returned (.bool true) ∧ Below w.heap.size w w' := by
  have hfit1 : FitsFs ⟨room, files, 3, 0, true⟩ := ⟨hfit.1.1, ⟨by show (-9223372036854775808 : Int) ≤ 3; have : -9223372036854775808 ≤ fuse := hfit.1.2.1.1; omega, by show (3 : Int) ≤ 9223372036854775807; have : fuse ≤ 9223372036854775807 := hfit.1.2.1.2; omega⟩, ⟨by show (-9223372036854775808 : Int) ≤ 0; omega, by show (0 : Int) ≤ 9223372036854775807; omega⟩⟩
  have HCK := hide (fun (X : World) (hX : RowF X v files) => check_any ⟨room, files, 3, 0, true⟩ v X hfit1 hX)
  rw [hr] at HCK
  have HLV := hide (fun X => lives_any X)
  have hb0 := (Below.refl w.heap.size w).alloc (Nat.le_refl _) (Obj.cells #[.int .i64 room, v, .int .i64 fuse, .int .i64 fault, .bool true] 24)
  have k0 := Blk.new w 24 #[.int .i64 room, v, .int .i64 fuse, .int .i64 fault, .bool true]
  have HR := hide (h.below hb0)
  obtain ⟨a, cap, hv, h63, _, _⟩ := id h
  subst hv
  obtain ⟨N, hN⟩ : ∃ N, files.length = N := ⟨_, rfl⟩
  rw [hN] at k0 HR h63 hb0 HCK ⊢
  have K := hide k0
  have BX := hide hb0
  clear k0 hb0 hN h hr hfit hfit1
  simp only [fsV, if_true, Bool.false_eq_true, if_false] at HCK ⊢
  go_enter Try.func6, Try.ntmps6
  go_wp2_with fail
  refine (unhide HLV _).mono ?_
  rintro e w1 ⟨rfl, bX⟩
  have k1 := (unhide K).below bX
  have R1 := (unhide HR).below bX
  have BX1 := belows (unhide BX) bX
  have c0 := k1.cell 0
  have c1 := k1.cell 1
  have c2 := k1.cell 2
  have c3 := k1.cell 3
  have c4 := k1.cell 4
  have f2 := k1.frozen 2
  have f3 := k1.frozen 3
  simp only [List.getElem?_toArray, List.getElem?_cons_succ, List.getElem?_cons_zero] at c0 c1 c2 c3 c4
  have K1 : Hid (Blk ((w1.setCell ⟨w.heap.size, 3, none⟩ (.int .i64 0)).setCell ⟨w.heap.size, 2, none⟩ (.int .i64 3)) w.heap.size 24 #[.int .i64 room, .slice a N cap, .int .i64 3, .int .i64 0, .bool true]) := hide ((k1.set 3 (.int .i64 0)).set 2 (.int .i64 3))
  have BY := hide ((BX1.setCell (p := ⟨w.heap.size, 3, none⟩) (Nat.le_refl _) (.int .i64 0)).setCell (p := ⟨w.heap.size, 2, none⟩) (Nat.le_refl _) (.int .i64 3))
  have RY : Hid (RowF ((w1.setCell ⟨w.heap.size, 3, none⟩ (.int .i64 0)).setCell ⟨w.heap.size, 2, none⟩ (.int .i64 3)) (.slice a N cap) files) := hide (rowF_set (rowF_set R1 k1 (fs_notext _ _ _ _ _ _ _) 3 (.int .i64 0)) (k1.set 3 (.int .i64 0)) (fs_notext _ _ _ _ _ _ _) 2 (.int .i64 3))
  clear k1 R1 BX1 bX K HR BX HLV
  go_wp2_with fail
  refine (unhide HCK _ (unhide RY)).mono ?_
  rintro e w2 ⟨rfl, bX⟩
  clear c0 c1 c2 c3 c4 f2 f3
  have c4 := ((unhide K1).below bX).cell 4
  simp only [List.getElem?_toArray, List.getElem?_cons_succ, List.getElem?_cons_zero] at c4
  have BZ := hide (belows (unhide BY) bX)
  clear bX K1 RY BY HCK
  go_wp2
  go_ret
  exact ⟨rfl, unhide BZ⟩

set_option maxHeartbeats 4000000 in
set_option maxRecDepth 100000 in
theorem diskFails_c (room fuse fault : Int) (down : Bool) (files : List File) (v : Value) (name to data : ByteArray) (w : World) (hfit : FitAll ⟨room, files, fuse, fault, down⟩) (h : RowF w v files) (hfu : ¬ 0 ≤ fuse) (hr : right ⟨room, files, fuse, 0, down⟩ = false) :
    Calls Try.prog 6 #[fsV ⟨room, files, fuse, fault, down⟩ v, .string name, .string to, .string data] w fun e w' => e = .returned (.bool true) ∧ Below w.heap.size w w' := by
  have hfit1 : FitsFs ⟨room, files, fuse, 0, down⟩ := ⟨hfit.1.1, ⟨by show (-9223372036854775808 : Int) ≤ fuse; have : -9223372036854775808 ≤ fuse := hfit.1.2.1.1; omega, by show (fuse : Int) ≤ 9223372036854775807; have : fuse ≤ 9223372036854775807 := hfit.1.2.1.2; omega⟩, ⟨by show (-9223372036854775808 : Int) ≤ 0; omega, by show (0 : Int) ≤ 9223372036854775807; omega⟩⟩
  have HCK := hide (fun (X : World) (hX : RowF X v files) => check_any ⟨room, files, fuse, 0, down⟩ v X hfit1 hX)
  rw [hr] at HCK
  have HLV := hide (fun X => lives_any X)
  have hb0 := (Below.refl w.heap.size w).alloc (Nat.le_refl _) (Obj.cells #[.int .i64 room, v, .int .i64 fuse, .int .i64 fault, .bool down] 24)
  have k0 := Blk.new w 24 #[.int .i64 room, v, .int .i64 fuse, .int .i64 fault, .bool down]
  have HR := hide (h.below hb0)
  obtain ⟨a, cap, hv, h63, _, _⟩ := id h
  subst hv
  obtain ⟨N, hN⟩ : ∃ N, files.length = N := ⟨_, rfl⟩
  rw [hN] at k0 HR h63 hb0 HCK ⊢
  have K := hide k0
  have BX := hide hb0
  clear k0 hb0 hN h hr hfit hfit1
  simp only [fsV, if_true, Bool.false_eq_true, if_false] at HCK ⊢
  go_enter Try.func6, Try.ntmps6
  go_wp2_with fail
  refine (unhide HLV _).mono ?_
  rintro e w1 ⟨rfl, bX⟩
  have k1 := (unhide K).below bX
  have R1 := (unhide HR).below bX
  have BX1 := belows (unhide BX) bX
  have c0 := k1.cell 0
  have c1 := k1.cell 1
  have c2 := k1.cell 2
  have c3 := k1.cell 3
  have c4 := k1.cell 4
  have f2 := k1.frozen 2
  have f3 := k1.frozen 3
  simp only [List.getElem?_toArray, List.getElem?_cons_succ, List.getElem?_cons_zero] at c0 c1 c2 c3 c4
  have K1 : Hid (Blk (w1.setCell ⟨w.heap.size, 3, none⟩ (.int .i64 0)) w.heap.size 24 #[.int .i64 room, .slice a N cap, .int .i64 fuse, .int .i64 0, .bool down]) := hide (k1.set 3 (.int .i64 0))
  have BY := hide (BX1.setCell (p := ⟨w.heap.size, 3, none⟩) (Nat.le_refl _) (.int .i64 0))
  have RY : Hid (RowF (w1.setCell ⟨w.heap.size, 3, none⟩ (.int .i64 0)) (.slice a N cap) files) := hide (rowF_set R1 k1 (fs_notext _ _ _ _ _ _ _) 3 (.int .i64 0))
  clear k1 R1 BX1 bX K HR BX HLV
  go_wp2_with fail
  refine (unhide HCK _ (unhide RY)).mono ?_
  rintro e w2 ⟨rfl, bX⟩
  clear c0 c1 c2 c3 c4 f2 f3
  have c4 := ((unhide K1).below bX).cell 4
  simp only [List.getElem?_toArray, List.getElem?_cons_succ, List.getElem?_cons_zero] at c4
  have BZ := hide (belows (unhide BY) bX)
  clear bX K1 RY BY HCK
  go_wp2
  go_ret
  exact ⟨rfl, unhide BZ⟩

set_option maxHeartbeats 4000000 in
set_option maxRecDepth 100000 in
theorem diskFails_d (room fuse fault : Int)  (files : List File) (v : Value) (name to data : ByteArray) (w : World) (hfit : FitAll ⟨room, files, fuse, fault, true⟩) (h : RowF w v files) (hfu : ¬ 0 ≤ fuse) (hr : right ⟨room, files, fuse, 0, true⟩ = true) :
    Calls Try.prog 6 #[fsV ⟨room, files, fuse, fault, true⟩ v, .string name, .string to, .string data] w fun e w' => e = .returned (.bool true) ∧ Below w.heap.size w w' := by
  have hfit1 : FitsFs ⟨room, files, fuse, 0, true⟩ := ⟨hfit.1.1, ⟨by show (-9223372036854775808 : Int) ≤ fuse; have : -9223372036854775808 ≤ fuse := hfit.1.2.1.1; omega, by show (fuse : Int) ≤ 9223372036854775807; have : fuse ≤ 9223372036854775807 := hfit.1.2.1.2; omega⟩, ⟨by show (-9223372036854775808 : Int) ≤ 0; omega, by show (0 : Int) ≤ 9223372036854775807; omega⟩⟩
  have HCK := hide (fun (X : World) (hX : RowF X v files) => check_any ⟨room, files, fuse, 0, true⟩ v X hfit1 hX)
  rw [hr] at HCK
  have HLV := hide (fun X => lives_any X)
  have hb0 := (Below.refl w.heap.size w).alloc (Nat.le_refl _) (Obj.cells #[.int .i64 room, v, .int .i64 fuse, .int .i64 fault, .bool true] 24)
  have k0 := Blk.new w 24 #[.int .i64 room, v, .int .i64 fuse, .int .i64 fault, .bool true]
  have HR := hide (h.below hb0)
  obtain ⟨a, cap, hv, h63, _, _⟩ := id h
  subst hv
  obtain ⟨N, hN⟩ : ∃ N, files.length = N := ⟨_, rfl⟩
  rw [hN] at k0 HR h63 hb0 HCK ⊢
  have K := hide k0
  have BX := hide hb0
  clear k0 hb0 hN h hr hfit hfit1
  simp only [fsV, if_true, Bool.false_eq_true, if_false] at HCK ⊢
  go_enter Try.func6, Try.ntmps6
  go_wp2_with fail
  refine (unhide HLV _).mono ?_
  rintro e w1 ⟨rfl, bX⟩
  have k1 := (unhide K).below bX
  have R1 := (unhide HR).below bX
  have BX1 := belows (unhide BX) bX
  have c0 := k1.cell 0
  have c1 := k1.cell 1
  have c2 := k1.cell 2
  have c3 := k1.cell 3
  have c4 := k1.cell 4
  have f2 := k1.frozen 2
  have f3 := k1.frozen 3
  simp only [List.getElem?_toArray, List.getElem?_cons_succ, List.getElem?_cons_zero] at c0 c1 c2 c3 c4
  have K1 : Hid (Blk (w1.setCell ⟨w.heap.size, 3, none⟩ (.int .i64 0)) w.heap.size 24 #[.int .i64 room, .slice a N cap, .int .i64 fuse, .int .i64 0, .bool true]) := hide (k1.set 3 (.int .i64 0))
  have BY := hide (BX1.setCell (p := ⟨w.heap.size, 3, none⟩) (Nat.le_refl _) (.int .i64 0))
  have RY : Hid (RowF (w1.setCell ⟨w.heap.size, 3, none⟩ (.int .i64 0)) (.slice a N cap) files) := hide (rowF_set R1 k1 (fs_notext _ _ _ _ _ _ _) 3 (.int .i64 0))
  clear k1 R1 BX1 bX K HR BX HLV
  go_wp2_with fail
  refine (unhide HCK _ (unhide RY)).mono ?_
  rintro e w2 ⟨rfl, bX⟩
  clear c0 c1 c2 c3 c4 f2 f3
  have c4 := ((unhide K1).below bX).cell 4
  simp only [List.getElem?_toArray, List.getElem?_cons_succ, List.getElem?_cons_zero] at c4
  have BZ := hide (belows (unhide BY) bX)
  clear bX K1 RY BY HCK
  go_wp2
  go_ret
  exact ⟨rfl, unhide BZ⟩

theorem diskFails_walk (d : Fs) (v : Value) (name to data : ByteArray) (w : World) (hfit : FitAll d) (h : RowF w v d.files) (hnt : NeatF v) (hname : name.size ≤ 281474976710656) (hto : to.size ≤ 281474976710656) (hdata : data.size ≤ 281474976710656) :
    Calls Try.prog 6 #[fsV d v, .string name, .string to, .string data] w fun e w' => e = .returned (.bool true) ∧ Below w.heap.size w w' := by
  obtain ⟨room, files, fuse, fault, down⟩ := d
  by_cases h0 : 0 ≤ fuse
  · cases hr : right ⟨room, files, 3, 0, down⟩ with
    | false => exact diskFails_a room fuse fault down files v name to data w hfit h h0 hr
    | true =>
      cases down with
      | true => exact diskFails_b room fuse fault files v name to data w hfit h h0 hr
      | false => exact diskFails_up room fuse fault files v name to data w hfit h hnt hname hto hdata h0 hr
  · cases hr : right ⟨room, files, fuse, 0, down⟩ with
    | false => exact diskFails_c room fuse fault down files v name to data w hfit h h0 hr
    | true =>
      cases down with
      | true => exact diskFails_d room fuse fault files v name to data w hfit h h0 hr
      | false =>
        have : -1 ≤ fuse := (right_parts hr).1.2.2.2.1
        obtain rfl : fuse = -1 := by omega
        exact diskFails_no room fault files v name to data w hfit h hnt hname hto hdata trivial hr
end Go.Proofs.Ytagcdjjgflmihaa
