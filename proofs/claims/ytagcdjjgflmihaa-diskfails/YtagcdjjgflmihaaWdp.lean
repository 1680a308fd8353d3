/-
  What missivelaw04.DiskFails does, over this seat's program: it answers true.
-/
import Derived.Test.YtagcdjjgflmihaaWdl
set_option linter.unusedVariables false
set_option linter.unusedSimpArgs false
namespace Go.Proofs.Ytagcdjjgflmihaa
open Go.RowKit Go.Proofs.Dsk


set_option maxHeartbeats 8000000 in
set_option maxRecDepth 100000 in
theorem diskFails_no (room fault : Int) (files : List File) (v : Value) (name to data : ByteArray) (w : World) (hfit : FitAll ⟨room, files, -1, fault, false⟩) (h : RowF w v files) (hnt : NeatF v) (hname : name.size ≤ 281474976710656) (hto : to.size ≤ 281474976710656) (hdata : data.size ≤ 281474976710656) (hfu : True) (hr : right ⟨room, files, (-1), 0, false⟩ = true) :
    Calls Try.prog 6 #[fsV ⟨room, files, -1, fault, false⟩ v, .string name, .string to, .string data] w fun e w' => e = .returned (.bool true) ∧ Below w.heap.size w w' := by
  have hfit1 : FitAll ⟨room, files, (-1), 0, false⟩ := ⟨⟨hfit.1.1, ⟨by show (-9223372036854775808 : Int) ≤ (-1); omega, by show ((-1) : Int) ≤ 9223372036854775807; omega⟩, ⟨by show (-9223372036854775808 : Int) ≤ 0; omega, by show (0 : Int) ≤ 9223372036854775807; omega⟩⟩, hfit.2⟩
  have h10 := (right_parts hr).1.2.2.1
  have HALL := hide (fails_all (d := ⟨room, files, (-1), 0, false⟩) name to data hr rfl (by show ((-1) : Int) ≠ 0; omega) rfl)
  have hwant : faulted ⟨room, files, (-1), 0, false⟩ = ⟨room, files, (-1), -1, false⟩ := rfl
  rw [hwant] at HALL
  have HCK := hide (fun (X : World) (hX : RowF X v files) => check_any ⟨room, files, (-1), 0, false⟩ v X hfit1.1 hX)
  rw [hr] at HCK
  have HCP := hide (fun (X : World) (hX : RowF X v files) => refCopy_any ⟨room, files, (-1), 0, false⟩ v X hX hnt (by show files.length ≤ 1048576; have : files.length ≤ 1024 := h10; omega))
  have HCR := hide (fun (X : World) (hX : RowF X v files) => create_any ⟨room, files, (-1), 0, false⟩ v name X hfit1 hX hname)
  have HAP := hide (fun (X : World) (s : Nat) (hX : RowF X v files) (hs : RowS X (.slice (some ⟨s, 0, none⟩) 1 1) [data]) => append_any ⟨room, files, (-1), 0, false⟩ v name (some ⟨s, 0, none⟩) 1 1 [data] X hfit1 hX hs)
  have HSY := hide (fun (X : World) (hX : RowF X v files) => sync_any ⟨room, files, (-1), 0, false⟩ v name X hfit1 hX)
  have HRN := hide (fun (X : World) (hX : RowF X v files) => rename_any ⟨room, files, (-1), 0, false⟩ v name to X hfit1 hX hto)
  have HDL := hide (fun (X : World) (hX : RowF X v files) => delete_any ⟨room, files, (-1), 0, false⟩ v name X hfit1 hX)
  have HLV := hide (fun X => lives_any X)
  have hb0 := (Below.refl w.heap.size w).alloc (Nat.le_refl _) (Obj.cells #[.int .i64 room, v, .int .i64 (-1), .int .i64 fault, .bool false] 24)
  have k0 := Blk.new w 24 #[.int .i64 room, v, .int .i64 (-1), .int .i64 fault, .bool false]
  have HR := hide (h.below hb0)
  obtain ⟨a, cap, hv, h63, hff, _⟩ := id h
  subst hv
  obtain ⟨N, hN⟩ : ∃ N, files.length = N := ⟨_, rfl⟩
  have HN := hide hN
  have HFF := hide hff
  rw [hN] at k0 HR h63 hb0 HCK HCP HCR HAP HSY HRN HDL ⊢
  have K := hide k0
  have BX := hide hb0
  have hn1 : (-1 : Int) < 0 := by omega
  clear k0 hb0 hN h hnt hr hfit hfit1 hwant hff
  simp only [fsV, if_true] at HCK HCP HCR HAP HSY HRN HDL ⊢
  go_enter Try.func6, Try.ntmps6
  go_wp2_with fail
  refine (unhide HLV _).mono ?_
  rintro e w1 ⟨rfl, bX⟩
  have k1 := (unhide K).below bX
  have R1 := (unhide HR).below bX
  have BX1 := belows (unhide BX) bX
  have c0 := k1.cell 0
  have c1 := k1.cell 1
  have c2 := k1.cell 2
  have c3 := k1.cell 3
  have c4 := k1.cell 4
  have f2 := k1.frozen 2
  have f3 := k1.frozen 3
  simp only [List.getElem?_toArray, List.getElem?_cons_succ, List.getElem?_cons_zero] at c0 c1 c2 c3 c4
  have K1 : Hid (Blk (w1.setCell ⟨w.heap.size, 3, none⟩ (.int .i64 0)) w.heap.size 24 #[.int .i64 room, .slice a N cap, .int .i64 (-1), .int .i64 0, .bool false]) := hide (k1.set 3 (.int .i64 0))
  have BY := hide (BX1.setCell (p := ⟨w.heap.size, 3, none⟩) (Nat.le_refl _) (.int .i64 0))
  have RY : Hid (RowF (w1.setCell ⟨w.heap.size, 3, none⟩ (.int .i64 0)) (.slice a N cap) files) := hide (rowF_set R1 k1 (fs_notext _ _ _ _ _ _ _) 3 (.int .i64 0))
  clear k1 R1 BX1 bX K HR BX HLV
  go_wp2_with fail
  refine (unhide HCK _ (unhide RY)).mono ?_
  rintro e w2 ⟨rfl, bX⟩
  clear c0 c1 c2 c3 c4 f2 f3
  have Kd := hide ((unhide K1).below bX)
  have Rd := hide ((unhide RY).below bX)
  have BX := hide (belows (unhide BY) bX)
  clear bX K1 RY BY HCK
  have c0 := (unhide Kd).cell 0
  have c1 := (unhide Kd).cell 1
  have c2 := (unhide Kd).cell 2
  have c3 := (unhide Kd).cell 3
  have c4 := (unhide Kd).cell 4
  simp only [List.getElem?_toArray, List.getElem?_cons_succ, List.getElem?_cons_zero] at c0 c1 c2 c3 c4
  go_wp2_with fail
  clear c0 c1 c2 c3 c4
  refine (unhide HCP _ (unhide Rd)).mono ?_
  rintro e w3 ⟨v3, rfl, own3, bX⟩
  obtain ⟨a3, cap3, rfl⟩ := own_form own3
  have r3 := rowF_of_own (l := files) (by rw [unhide HN]; exact own3) (by have := unhide HN; omega) (unhide HFF)
  have KN := hide ((unhide Kd).below bX)
  have RN := hide ((unhide Rd).below bX)
  clear Kd Rd
  have Kd := KN
  have Rd := RN
  clear KN RN
  have BN := hide (belows (unhide BX) bX)
  clear BX
  have BX := BN
  clear BN
  clear bX own3 HCP
  have bal : Below w3.heap.size w3 (w3.alloc (Obj.cells #[.int .i64 room, .slice a3 N cap3, .int .i64 (-1), .int .i64 (-1), .bool false] 24)) := (Below.refl _ _).alloc (Nat.le_refl _) _
  have KN := hide ((unhide Kd).below bal)
  have RN := hide ((unhide Rd).below bal)
  clear Kd Rd
  have Kd := KN
  have Rd := RN
  clear KN RN
  have BN := hide (belows (unhide BX) bal)
  clear BX
  have BX := BN
  clear BN
  have Kw := hide (Blk.new w3 24 #[.int .i64 room, .slice a3 N cap3, .int .i64 (-1), .int .i64 (-1), .bool false])
  have Rw := hide (r3.below bal)
  clear bal r3
  have c0 := (unhide Kd).cell 0
  have c1 := (unhide Kd).cell 1
  have c2 := (unhide Kd).cell 2
  have c3 := (unhide Kd).cell 3
  have c4 := (unhide Kd).cell 4
  simp only [List.getElem?_toArray, List.getElem?_cons_succ, List.getElem?_cons_zero] at c0 c1 c2 c3 c4
  go_wp2_with fail
  clear c0 c1 c2 c3 c4
  refine (unhide HCR _ (unhide Rd)).mono ?_
  rintro e w4 ⟨v4, rfl, r4, _, b4⟩
  have bX := b4
  obtain ⟨e4, he4⟩ : ∃ e, createR ⟨room, files, (-1), 0, false⟩ name = e := ⟨_, rfl⟩
  rw [he4] at HALL r4 ⊢
  obtain ⟨e4, z4⟩ := e4
  simp only at HALL r4 ⊢
  obtain ⟨a4, cap4, hv4, _⟩ := id r4
  subst hv4
  obtain ⟨n4, hn4⟩ : ∃ n, e4.files.length = n := ⟨_, rfl⟩
  rw [hn4] at r4 ⊢
  have KN := hide ((unhide Kd).below bX)
  have RN := hide ((unhide Rd).below bX)
  clear Kd Rd
  have Kd := KN
  have Rd := RN
  clear KN RN
  have KN := hide ((unhide Kw).below bX)
  have RN := hide ((unhide Rw).below bX)
  clear Kw Rw
  have Kw := KN
  have Rw := RN
  clear KN RN
  have BN := hide (belows (unhide BX) bX)
  clear BX
  have BX := BN
  clear BN
  clear bX b4 HCR he4 hn4
  have bal : Below w4.heap.size w4 (w4.alloc (Obj.cells #[.int .i64 e4.room, .slice a4 n4 cap4, .int .i64 e4.fuse, .int .i64 e4.fault, .bool e4.down] 24)) := (Below.refl _ _).alloc (Nat.le_refl _) _
  have KN := hide ((unhide Kd).below bal)
  have RN := hide ((unhide Rd).below bal)
  clear Kd Rd
  have Kd := KN
  have Rd := RN
  clear KN RN
  have KN := hide ((unhide Kw).below bal)
  have RN := hide ((unhide Rw).below bal)
  clear Kw Rw
  have Kw := KN
  have Rw := RN
  clear KN RN
  have BN := hide (belows (unhide BX) bal)
  clear BX
  have BX := BN
  clear BN
  have Ka := hide (Blk.new w4 24 #[.int .i64 e4.room, .slice a4 n4 cap4, .int .i64 e4.fuse, .int .i64 e4.fault, .bool e4.down])
  have Ra := hide (r4.below bal)
  clear bal r4
  have c0 := (unhide Kd).cell 0
  have c1 := (unhide Kd).cell 1
  have c2 := (unhide Kd).cell 2
  have c3 := (unhide Kd).cell 3
  have c4 := (unhide Kd).cell 4
  simp only [List.getElem?_toArray, List.getElem?_cons_succ, List.getElem?_cons_zero] at c0 c1 c2 c3 c4
  have bal : Below (w4.alloc (Obj.cells #[.int .i64 e4.room, .slice a4 n4 cap4, .int .i64 e4.fuse, .int .i64 e4.fault, .bool e4.down] 24)).heap.size (w4.alloc (Obj.cells #[.int .i64 e4.room, .slice a4 n4 cap4, .int .i64 e4.fuse, .int .i64 e4.fault, .bool e4.down] 24)) ((w4.alloc (Obj.cells #[.int .i64 e4.room, .slice a4 n4 cap4, .int .i64 e4.fuse, .int .i64 e4.fault, .bool e4.down] 24)).alloc (Obj.cells #[.string data] 9)) := (Below.refl _ _).alloc (Nat.le_refl _) _
  have RY := hide ((unhide Rd).below bal)
  have SY : Hid (RowS ((w4.alloc (Obj.cells #[.int .i64 e4.room, .slice a4 n4 cap4, .int .i64 e4.fuse, .int .i64 e4.fault, .bool e4.down] 24)).alloc (Obj.cells #[.string data] 9)) (.slice (some ⟨w4.heap.size + 1, 0, none⟩) 1 1) [data]) := hide (rowS_one (w4.alloc (Obj.cells #[.int .i64 e4.room, .slice a4 n4 cap4, .int .i64 e4.fuse, .int .i64 e4.fault, .bool e4.down] 24)) (w4.heap.size + 1) (by simp) data (by omega))
  have BAL := hide bal
  clear bal
  go_wp2_with fail
  clear c0 c1 c2 c3 c4
  refine (unhide HAP _ _ (unhide RY) (unhide SY)).mono ?_
  clear RY SY
  rintro e w5 ⟨v5, rfl, r5, _, b5⟩
  have bX := belows (unhide BAL) b5
  clear BAL
  obtain ⟨e5, he5⟩ : ∃ e, appendR ⟨room, files, (-1), 0, false⟩ name [data] = e := ⟨_, rfl⟩
  rw [he5] at HALL r5 ⊢
  obtain ⟨e5, z5⟩ := e5
  simp only at HALL r5 ⊢
  obtain ⟨a5, cap5, hv5, _⟩ := id r5
  subst hv5
  obtain ⟨n5, hn5⟩ : ∃ n, e5.files.length = n := ⟨_, rfl⟩
  rw [hn5] at r5 ⊢
  have KN := hide ((unhide Kd).below bX)
  have RN := hide ((unhide Rd).below bX)
  clear Kd Rd
  have Kd := KN
  have Rd := RN
  clear KN RN
  have KN := hide ((unhide Kw).below bX)
  have RN := hide ((unhide Rw).below bX)
  clear Kw Rw
  have Kw := KN
  have Rw := RN
  clear KN RN
  have KN := hide ((unhide Ka).below bX)
  have RN := hide ((unhide Ra).below bX)
  clear Ka Ra
  have Ka := KN
  have Ra := RN
  clear KN RN
  have BN := hide (belows (unhide BX) bX)
  clear BX
  have BX := BN
  clear BN
  clear bX b5 HAP he5 hn5
  have bal : Below w5.heap.size w5 (w5.alloc (Obj.cells #[.int .i64 e5.room, .slice a5 n5 cap5, .int .i64 e5.fuse, .int .i64 e5.fault, .bool e5.down] 24)) := (Below.refl _ _).alloc (Nat.le_refl _) _
  have KN := hide ((unhide Kd).below bal)
  have RN := hide ((unhide Rd).below bal)
  clear Kd Rd
  have Kd := KN
  have Rd := RN
  clear KN RN
  have KN := hide ((unhide Kw).below bal)
  have RN := hide ((unhide Rw).below bal)
  clear Kw Rw
  have Kw := KN
  have Rw := RN
  clear KN RN
  have KN := hide ((unhide Ka).below bal)
  have RN := hide ((unhide Ra).below bal)
  clear Ka Ra
  have Ka := KN
  have Ra := RN
  clear KN RN
  have BN := hide (belows (unhide BX) bal)
  clear BX
  have BX := BN
  clear BN
  have Kb := hide (Blk.new w5 24 #[.int .i64 e5.room, .slice a5 n5 cap5, .int .i64 e5.fuse, .int .i64 e5.fault, .bool e5.down])
  have Rb := hide (r5.below bal)
  clear bal r5
  have c0 := (unhide Kd).cell 0
  have c1 := (unhide Kd).cell 1
  have c2 := (unhide Kd).cell 2
  have c3 := (unhide Kd).cell 3
  have c4 := (unhide Kd).cell 4
  simp only [List.getElem?_toArray, List.getElem?_cons_succ, List.getElem?_cons_zero] at c0 c1 c2 c3 c4
  go_wp2_with fail
  clear c0 c1 c2 c3 c4
  refine (unhide HSY _ (unhide Rd)).mono ?_
  rintro e w6 ⟨v6, rfl, r6, _, b6⟩
  have bX := b6
  obtain ⟨e6, he6⟩ : ∃ e, syncR ⟨room, files, (-1), 0, false⟩ name = e := ⟨_, rfl⟩
  rw [he6] at HALL r6 ⊢
  obtain ⟨e6, z6⟩ := e6
  simp only at HALL r6 ⊢
  obtain ⟨a6, cap6, hv6, _⟩ := id r6
  subst hv6
  obtain ⟨n6, hn6⟩ : ∃ n, e6.files.length = n := ⟨_, rfl⟩
  rw [hn6] at r6 ⊢
  have KN := hide ((unhide Kd).below bX)
  have RN := hide ((unhide Rd).below bX)
  clear Kd Rd
  have Kd := KN
  have Rd := RN
  clear KN RN
  have KN := hide ((unhide Kw).below bX)
  have RN := hide ((unhide Rw).below bX)
  clear Kw Rw
  have Kw := KN
  have Rw := RN
  clear KN RN
  have KN := hide ((unhide Ka).below bX)
  have RN := hide ((unhide Ra).below bX)
  clear Ka Ra
  have Ka := KN
  have Ra := RN
  clear KN RN
  have KN := hide ((unhide Kb).below bX)
  have RN := hide ((unhide Rb).below bX)
  clear Kb Rb
  have Kb := KN
  have Rb := RN
  clear KN RN
  have BN := hide (belows (unhide BX) bX)
  clear BX
  have BX := BN
  clear BN
  clear bX b6 HSY he6 hn6
  have bal : Below w6.heap.size w6 (w6.alloc (Obj.cells #[.int .i64 e6.room, .slice a6 n6 cap6, .int .i64 e6.fuse, .int .i64 e6.fault, .bool e6.down] 24)) := (Below.refl _ _).alloc (Nat.le_refl _) _
  have KN := hide ((unhide Kd).below bal)
  have RN := hide ((unhide Rd).below bal)
  clear Kd Rd
  have Kd := KN
  have Rd := RN
  clear KN RN
  have KN := hide ((unhide Kw).below bal)
  have RN := hide ((unhide Rw).below bal)
  clear Kw Rw
  have Kw := KN
  have Rw := RN
  clear KN RN
  have KN := hide ((unhide Ka).below bal)
  have RN := hide ((unhide Ra).below bal)
  clear Ka Ra
  have Ka := KN
  have Ra := RN
  clear KN RN
  have KN := hide ((unhide Kb).below bal)
  have RN := hide ((unhide Rb).below bal)
  clear Kb Rb
  have Kb := KN
  have Rb := RN
  clear KN RN
  have BN := hide (belows (unhide BX) bal)
  clear BX
  have BX := BN
  clear BN
  have Kc := hide (Blk.new w6 24 #[.int .i64 e6.room, .slice a6 n6 cap6, .int .i64 e6.fuse, .int .i64 e6.fault, .bool e6.down])
  have Rc := hide (r6.below bal)
  clear bal r6
  have c0 := (unhide Kd).cell 0
  have c1 := (unhide Kd).cell 1
  have c2 := (unhide Kd).cell 2
  have c3 := (unhide Kd).cell 3
  have c4 := (unhide Kd).cell 4
  simp only [List.getElem?_toArray, List.getElem?_cons_succ, List.getElem?_cons_zero] at c0 c1 c2 c3 c4
  go_wp2_with fail
  clear c0 c1 c2 c3 c4
  refine (unhide HRN _ (unhide Rd)).mono ?_
  rintro e w7 ⟨v7, rfl, r7, _, b7⟩
  have bX := b7
  obtain ⟨e7, he7⟩ : ∃ e, renameR ⟨room, files, (-1), 0, false⟩ name to = e := ⟨_, rfl⟩
  rw [he7] at HALL r7 ⊢
  obtain ⟨e7, z7⟩ := e7
  simp only at HALL r7 ⊢
  obtain ⟨a7, cap7, hv7, _⟩ := id r7
  subst hv7
  obtain ⟨n7, hn7⟩ : ∃ n, e7.files.length = n := ⟨_, rfl⟩
  rw [hn7] at r7 ⊢
  have KN := hide ((unhide Kd).below bX)
  have RN := hide ((unhide Rd).below bX)
  clear Kd Rd
  have Kd := KN
  have Rd := RN
  clear KN RN
  have KN := hide ((unhide Kw).below bX)
  have RN := hide ((unhide Rw).below bX)
  clear Kw Rw
  have Kw := KN
  have Rw := RN
  clear KN RN
  have KN := hide ((unhide Ka).below bX)
  have RN := hide ((unhide Ra).below bX)
  clear Ka Ra
  have Ka := KN
  have Ra := RN
  clear KN RN
  have KN := hide ((unhide Kb).below bX)
  have RN := hide ((unhide Rb).below bX)
  clear Kb Rb
  have Kb := KN
  have Rb := RN
  clear KN RN
  have KN := hide ((unhide Kc).below bX)
  have RN := hide ((unhide Rc).below bX)
  clear Kc Rc
  have Kc := KN
  have Rc := RN
  clear KN RN
  have BN := hide (belows (unhide BX) bX)
  clear BX
  have BX := BN
  clear BN
  clear bX b7 HRN he7 hn7
  have bal : Below w7.heap.size w7 (w7.alloc (Obj.cells #[.int .i64 e7.room, .slice a7 n7 cap7, .int .i64 e7.fuse, .int .i64 e7.fault, .bool e7.down] 24)) := (Below.refl _ _).alloc (Nat.le_refl _) _
  have KN := hide ((unhide Kd).below bal)
  have RN := hide ((unhide Rd).below bal)
  clear Kd Rd
  have Kd := KN
  have Rd := RN
  clear KN RN
  have KN := hide ((unhide Kw).below bal)
  have RN := hide ((unhide Rw).below bal)
  clear Kw Rw
  have Kw := KN
  have Rw := RN
  clear KN RN
  have KN := hide ((unhide Ka).below bal)
  have RN := hide ((unhide Ra).below bal)
  clear Ka Ra
  have Ka := KN
  have Ra := RN
  clear KN RN
  have KN := hide ((unhide Kb).below bal)
  have RN := hide ((unhide Rb).below bal)
  clear Kb Rb
  have Kb := KN
  have Rb := RN
  clear KN RN
  have KN := hide ((unhide Kc).below bal)
  have RN := hide ((unhide Rc).below bal)
  clear Kc Rc
  have Kc := KN
  have Rc := RN
  clear KN RN
  have BN := hide (belows (unhide BX) bal)
  clear BX
  have BX := BN
  clear BN
  have Ke := hide (Blk.new w7 24 #[.int .i64 e7.room, .slice a7 n7 cap7, .int .i64 e7.fuse, .int .i64 e7.fault, .bool e7.down])
  have Re := hide (r7.below bal)
  clear bal r7
  have c0 := (unhide Kd).cell 0
  have c1 := (unhide Kd).cell 1
  have c2 := (unhide Kd).cell 2
  have c3 := (unhide Kd).cell 3
  have c4 := (unhide Kd).cell 4
  simp only [List.getElem?_toArray, List.getElem?_cons_succ, List.getElem?_cons_zero] at c0 c1 c2 c3 c4
  go_wp2_with fail
  clear c0 c1 c2 c3 c4
  refine (unhide HDL _ (unhide Rd)).mono ?_
  rintro e w8 ⟨v8, rfl, r8, _, b8⟩
  have bX := b8
  obtain ⟨e8, he8⟩ : ∃ e, deleteR ⟨room, files, (-1), 0, false⟩ name = e := ⟨_, rfl⟩
  rw [he8] at HALL r8 ⊢
  obtain ⟨e8, z8⟩ := e8
  simp only at HALL r8 ⊢
  obtain ⟨a8, cap8, hv8, _⟩ := id r8
  subst hv8
  obtain ⟨n8, hn8⟩ : ∃ n, e8.files.length = n := ⟨_, rfl⟩
  rw [hn8] at r8 ⊢
  have KN := hide ((unhide Kd).below bX)
  have RN := hide ((unhide Rd).below bX)
  clear Kd Rd
  have Kd := KN
  have Rd := RN
  clear KN RN
  have KN := hide ((unhide Kw).below bX)
  have RN := hide ((unhide Rw).below bX)
  clear Kw Rw
  have Kw := KN
  have Rw := RN
  clear KN RN
  have KN := hide ((unhide Ka).below bX)
  have RN := hide ((unhide Ra).below bX)
  clear Ka Ra
  have Ka := KN
  have Ra := RN
  clear KN RN
  have KN := hide ((unhide Kb).below bX)
  have RN := hide ((unhide Rb).below bX)
  clear Kb Rb
  have Kb := KN
  have Rb := RN
  clear KN RN
  have KN := hide ((unhide Kc).below bX)
  have RN := hide ((unhide Rc).below bX)
  clear Kc Rc
  have Kc := KN
  have Rc := RN
  clear KN RN
  have KN := hide ((unhide Ke).below bX)
  have RN := hide ((unhide Re).below bX)
  clear Ke Re
  have Ke := KN
  have Re := RN
  clear KN RN
  have BN := hide (belows (unhide BX) bX)
  clear BX
  have BX := BN
  clear BN
  clear bX b8 HDL he8 hn8
  have bal : Below w8.heap.size w8 (w8.alloc (Obj.cells #[.int .i64 e8.room, .slice a8 n8 cap8, .int .i64 e8.fuse, .int .i64 e8.fault, .bool e8.down] 24)) := (Below.refl _ _).alloc (Nat.le_refl _) _
  have KN := hide ((unhide Kd).below bal)
  have RN := hide ((unhide Rd).below bal)
  clear Kd Rd
  have Kd := KN
  have Rd := RN
  clear KN RN
  have KN := hide ((unhide Kw).below bal)
  have RN := hide ((unhide Rw).below bal)
  clear Kw Rw
  have Kw := KN
  have Rw := RN
  clear KN RN
  have KN := hide ((unhide Ka).below bal)
  have RN := hide ((unhide Ra).below bal)
  clear Ka Ra
  have Ka := KN
  have Ra := RN
  clear KN RN
  have KN := hide ((unhide Kb).below bal)
  have RN := hide ((unhide Rb).below bal)
  clear Kb Rb
  have Kb := KN
  have Rb := RN
  clear KN RN
  have KN := hide ((unhide Kc).below bal)
  have RN := hide ((unhide Rc).below bal)
  clear Kc Rc
  have Kc := KN
  have Rc := RN
  clear KN RN
  have KN := hide ((unhide Ke).below bal)
  have RN := hide ((unhide Re).below bal)
  clear Ke Re
  have Ke := KN
  have Re := RN
  clear KN RN
  have BN := hide (belows (unhide BX) bal)
  clear BX
  have BX := BN
  clear BN
  have Kf := hide (Blk.new w8 24 #[.int .i64 e8.room, .slice a8 n8 cap8, .int .i64 e8.fuse, .int .i64 e8.fault, .bool e8.down])
  have Rf := hide (r8.below bal)
  clear bal r8
  go_upto_region 17 with (fail)
  generalize (w8.alloc (Obj.cells #[.int .i64 e8.room, .slice a8 n8 cap8, .int .i64 e8.fuse, .int .i64 e8.fault, .bool e8.down] 24)) = Y at *
  rcases unhide HALL with ⟨g4, g5, g6, g7, g8⟩ | ⟨c, hc0, hc1, g4, g5, g6, g7, g8⟩ | ⟨c, hc0, hc1, g4, g6, g8, g5, g7⟩
  · skip
    injection g4 with j4 i4
    subst j4 i4
    injection g5 with j5 i5
    subst j5 i5
    injection g6 with j6 i6
    subst j6 i6
    injection g7 with j7 i7
    subst j7 i7
    injection g8 with j8 i8
    subst j8 i8
    clear HALL Rd Kd
    apply wp_region_lit
    change wpList _ (List.toArray (_ :: _ :: _ :: _ :: _ :: _ :: _ :: _ :: _ :: _ :: _ :: _ :: _ :: _ :: _ :: _ :: _ :: _ :: _ :: _ :: _ :: _ :: _ :: _ :: _ :: _ :: _ :: _ :: _ :: _ :: _ :: _ :: _ :: _ :: _ :: _ :: _ :: _ :: _ :: _ :: _ :: _ :: _ :: _ :: _ :: _ :: _ :: _ :: _ :: _ :: _ :: _ :: _ :: _ :: _ :: _ :: _ :: _ :: _ :: _ :: _ :: _ :: _ :: _ :: [])) _ (_ :: _ :: _ :: _ :: _ :: _ :: _ :: _ :: _ :: _ :: _ :: _ :: _ :: _ :: _ :: _ :: _ :: _ :: _ :: _ :: _ :: _ :: _ :: _ :: _ :: _ :: _ :: _ :: _ :: _ :: _ :: _ :: _ :: _ :: _ :: _ :: _ :: _ :: _ :: _ :: _ :: _ :: _ :: _ :: _ :: _ :: _ :: _ :: _ :: _ :: _ :: _ :: _ :: _ :: _ :: _ :: _ :: _ :: _ :: _ :: _ :: _ :: _ :: _ :: []) _ _
    have a0 := (unhide Ka).cell 0
    have a1 := (unhide Ka).cell 1
    have a2 := (unhide Ka).cell 2
    have a3 := (unhide Ka).cell 3
    have a4 := (unhide Ka).cell 4
    simp only [List.getElem?_toArray, List.getElem?_cons_succ, List.getElem?_cons_zero] at a0 a1 a2 a3 a4
    have w0 := (unhide Kw).cell 0
    have w1 := (unhide Kw).cell 1
    have w2 := (unhide Kw).cell 2
    have w3 := (unhide Kw).cell 3
    have w4 := (unhide Kw).cell 4
    simp only [List.getElem?_toArray, List.getElem?_cons_succ, List.getElem?_cons_zero] at w0 w1 w2 w3 w4
    go_wp2_with fail
    clear a0 w0 a1 w1 a2 w2 a3 w3 a4 w4
    refine (refSame_self ⟨room, files, (-1), -1, false⟩ (.slice a4 n4 cap4) (.slice a3 N cap3) _ (unhide Ra) (unhide Rw)).mono ?_
    rintro e y4 ⟨rfl, bX⟩
    have KN := hide ((unhide Ka).below bX)
    have RN := hide ((unhide Ra).below bX)
    clear Ka Ra
    have Ka := KN
    have Ra := RN
    clear KN RN
    have KN := hide ((unhide Kb).below bX)
    have RN := hide ((unhide Rb).below bX)
    clear Kb Rb
    have Kb := KN
    have Rb := RN
    clear KN RN
    have KN := hide ((unhide Kc).below bX)
    have RN := hide ((unhide Rc).below bX)
    clear Kc Rc
    have Kc := KN
    have Rc := RN
    clear KN RN
    have KN := hide ((unhide Ke).below bX)
    have RN := hide ((unhide Re).below bX)
    clear Ke Re
    have Ke := KN
    have Re := RN
    clear KN RN
    have KN := hide ((unhide Kf).below bX)
    have RN := hide ((unhide Rf).below bX)
    clear Kf Rf
    have Kf := KN
    have Rf := RN
    clear KN RN
    have KN := hide ((unhide Kw).below bX)
    have RN := hide ((unhide Rw).below bX)
    clear Kw Rw
    have Kw := KN
    have Rw := RN
    clear KN RN
    have BN := hide (belows (unhide BX) bX)
    clear BX bX
    have BX := BN
    clear BN
    go_wp2
    go_ret
    exact ⟨rfl, unhide BX⟩
  · skip
    injection g4 with j4 i4
    subst j4 i4
    injection g5 with j5 i5
    subst j5 i5
    injection g6 with j6 i6
    subst j6 i6
    injection g7 with j7 i7
    subst j7 i7
    injection g8 with j8 i8
    subst j8 i8
    have q0 : ((z4 : Int) == 10) = false := by simp; omega
    have q1 : ((z4 : Int) == 0) = false := by simp; omega
    have q2 : ((z4 : Int) != 10) = true := by simp; omega
    have q3 : ((z4 : Int) != 0) = true := by simp; omega
    have q4 : ¬ (z4 : Int) = 10 := by omega
    have q5 : ¬ (z4 : Int) = 0 := by omega
    clear HALL Rd Kd
    apply wp_region_lit
    change wpList _ (List.toArray (_ :: _ :: _ :: _ :: _ :: _ :: _ :: _ :: _ :: _ :: _ :: _ :: _ :: _ :: _ :: _ :: _ :: _ :: _ :: _ :: _ :: _ :: _ :: _ :: _ :: _ :: _ :: _ :: _ :: _ :: _ :: _ :: _ :: _ :: _ :: _ :: _ :: _ :: _ :: _ :: _ :: _ :: _ :: _ :: _ :: _ :: _ :: _ :: _ :: _ :: _ :: _ :: _ :: _ :: _ :: _ :: _ :: _ :: _ :: _ :: _ :: _ :: _ :: _ :: [])) _ (_ :: _ :: _ :: _ :: _ :: _ :: _ :: _ :: _ :: _ :: _ :: _ :: _ :: _ :: _ :: _ :: _ :: _ :: _ :: _ :: _ :: _ :: _ :: _ :: _ :: _ :: _ :: _ :: _ :: _ :: _ :: _ :: _ :: _ :: _ :: _ :: _ :: _ :: _ :: _ :: _ :: _ :: _ :: _ :: _ :: _ :: _ :: _ :: _ :: _ :: _ :: _ :: _ :: _ :: _ :: _ :: _ :: _ :: _ :: _ :: _ :: _ :: _ :: _ :: []) _ _
    go_wp2
    go_ret
    exact ⟨rfl, unhide BX⟩
  · skip
    injection g4 with j4 i4
    subst j4 i4
    injection g6 with j6 i6
    subst j6 i6
    injection g8 with j8 i8
    subst j8 i8
    have q0 : ((z4 : Int) == 10) = false := by simp; omega
    have q1 : ((z4 : Int) == 0) = false := by simp; omega
    have q2 : ((z4 : Int) != 10) = true := by simp; omega
    have q3 : ((z4 : Int) != 0) = true := by simp; omega
    have q4 : ¬ (z4 : Int) = 10 := by omega
    have q5 : ¬ (z4 : Int) = 0 := by omega
    clear HALL Rd Kd
    rcases g5 with g5 | g5 <;> rcases g7 with g7 | g7
    · skip
      injection g5 with j5 i5
      subst j5 i5
      injection g7 with j7 i7
      subst j7 i7
      apply wp_region_lit
      change wpList _ (List.toArray (_ :: _ :: _ :: _ :: _ :: _ :: _ :: _ :: _ :: _ :: _ :: _ :: _ :: _ :: _ :: _ :: _ :: _ :: _ :: _ :: _ :: _ :: _ :: _ :: _ :: _ :: _ :: _ :: _ :: _ :: _ :: _ :: _ :: _ :: _ :: _ :: _ :: _ :: _ :: _ :: _ :: _ :: _ :: _ :: _ :: _ :: _ :: _ :: _ :: _ :: _ :: _ :: _ :: _ :: _ :: _ :: _ :: _ :: _ :: _ :: _ :: _ :: _ :: _ :: [])) _ (_ :: _ :: _ :: _ :: _ :: _ :: _ :: _ :: _ :: _ :: _ :: _ :: _ :: _ :: _ :: _ :: _ :: _ :: _ :: _ :: _ :: _ :: _ :: _ :: _ :: _ :: _ :: _ :: _ :: _ :: _ :: _ :: _ :: _ :: _ :: _ :: _ :: _ :: _ :: _ :: _ :: _ :: _ :: _ :: _ :: _ :: _ :: _ :: _ :: _ :: _ :: _ :: _ :: _ :: _ :: _ :: _ :: _ :: _ :: _ :: _ :: _ :: _ :: _ :: []) _ _
      have b0 := (unhide Kb).cell 0
      have b1 := (unhide Kb).cell 1
      have b2 := (unhide Kb).cell 2
      have b3 := (unhide Kb).cell 3
      have b4 := (unhide Kb).cell 4
      simp only [List.getElem?_toArray, List.getElem?_cons_succ, List.getElem?_cons_zero] at b0 b1 b2 b3 b4
      have w0 := (unhide Kw).cell 0
      have w1 := (unhide Kw).cell 1
      have w2 := (unhide Kw).cell 2
      have w3 := (unhide Kw).cell 3
      have w4 := (unhide Kw).cell 4
      simp only [List.getElem?_toArray, List.getElem?_cons_succ, List.getElem?_cons_zero] at w0 w1 w2 w3 w4
      go_wp2_with fail
      clear b0 w0 b1 w1 b2 w2 b3 w3 b4 w4
      refine (refSame_self ⟨room, files, (-1), -1, false⟩ (.slice a5 n5 cap5) (.slice a3 N cap3) _ (unhide Rb) (unhide Rw)).mono ?_
      rintro e y5 ⟨rfl, bX⟩
      have KN := hide ((unhide Ka).below bX)
      have RN := hide ((unhide Ra).below bX)
      clear Ka Ra
      have Ka := KN
      have Ra := RN
      clear KN RN
      have KN := hide ((unhide Kb).below bX)
      have RN := hide ((unhide Rb).below bX)
      clear Kb Rb
      have Kb := KN
      have Rb := RN
      clear KN RN
      have KN := hide ((unhide Kc).below bX)
      have RN := hide ((unhide Rc).below bX)
      clear Kc Rc
      have Kc := KN
      have Rc := RN
      clear KN RN
      have KN := hide ((unhide Ke).below bX)
      have RN := hide ((unhide Re).below bX)
      clear Ke Re
      have Ke := KN
      have Re := RN
      clear KN RN
      have KN := hide ((unhide Kf).below bX)
      have RN := hide ((unhide Rf).below bX)
      clear Kf Rf
      have Kf := KN
      have Rf := RN
      clear KN RN
      have KN := hide ((unhide Kw).below bX)
      have RN := hide ((unhide Rw).below bX)
      clear Kw Rw
      have Kw := KN
      have Rw := RN
      clear KN RN
      have BN := hide (belows (unhide BX) bX)
      clear BX bX
      have BX := BN
      clear BN
      have c0 := (unhide Kc).cell 0
      have c1 := (unhide Kc).cell 1
      have c2 := (unhide Kc).cell 2
      have c3 := (unhide Kc).cell 3
      have c4 := (unhide Kc).cell 4
      simp only [List.getElem?_toArray, List.getElem?_cons_succ, List.getElem?_cons_zero] at c0 c1 c2 c3 c4
      have w0 := (unhide Kw).cell 0
      have w1 := (unhide Kw).cell 1
      have w2 := (unhide Kw).cell 2
      have w3 := (unhide Kw).cell 3
      have w4 := (unhide Kw).cell 4
      simp only [List.getElem?_toArray, List.getElem?_cons_succ, List.getElem?_cons_zero] at w0 w1 w2 w3 w4
      go_wp2_with fail
      clear c0 w0 c1 w1 c2 w2 c3 w3 c4 w4
      refine (refSame_self ⟨room, files, (-1), -1, false⟩ (.slice a6 n6 cap6) (.slice a3 N cap3) _ (unhide Rc) (unhide Rw)).mono ?_
      rintro e y6 ⟨rfl, bX⟩
      have KN := hide ((unhide Ka).below bX)
      have RN := hide ((unhide Ra).below bX)
      clear Ka Ra
      have Ka := KN
      have Ra := RN
      clear KN RN
      have KN := hide ((unhide Kb).below bX)
      have RN := hide ((unhide Rb).below bX)
      clear Kb Rb
      have Kb := KN
      have Rb := RN
      clear KN RN
      have KN := hide ((unhide Kc).below bX)
      have RN := hide ((unhide Rc).below bX)
      clear Kc Rc
      have Kc := KN
      have Rc := RN
      clear KN RN
      have KN := hide ((unhide Ke).below bX)
      have RN := hide ((unhide Re).below bX)
      clear Ke Re
      have Ke := KN
      have Re := RN
      clear KN RN
      have KN := hide ((unhide Kf).below bX)
      have RN := hide ((unhide Rf).below bX)
      clear Kf Rf
      have Kf := KN
      have Rf := RN
      clear KN RN
      have KN := hide ((unhide Kw).below bX)
      have RN := hide ((unhide Rw).below bX)
      clear Kw Rw
      have Kw := KN
      have Rw := RN
      clear KN RN
      have BN := hide (belows (unhide BX) bX)
      clear BX bX
      have BX := BN
      clear BN
      have e0 := (unhide Ke).cell 0
      have e1 := (unhide Ke).cell 1
      have e2 := (unhide Ke).cell 2
      have e3 := (unhide Ke).cell 3
      have e4 := (unhide Ke).cell 4
      simp only [List.getElem?_toArray, List.getElem?_cons_succ, List.getElem?_cons_zero] at e0 e1 e2 e3 e4
      have w0 := (unhide Kw).cell 0
      have w1 := (unhide Kw).cell 1
      have w2 := (unhide Kw).cell 2
      have w3 := (unhide Kw).cell 3
      have w4 := (unhide Kw).cell 4
      simp only [List.getElem?_toArray, List.getElem?_cons_succ, List.getElem?_cons_zero] at w0 w1 w2 w3 w4
      go_wp2_with fail
      clear e0 w0 e1 w1 e2 w2 e3 w3 e4 w4
      refine (refSame_self ⟨room, files, (-1), -1, false⟩ (.slice a7 n7 cap7) (.slice a3 N cap3) _ (unhide Re) (unhide Rw)).mono ?_
      rintro e y7 ⟨rfl, bX⟩
      have KN := hide ((unhide Ka).below bX)
      have RN := hide ((unhide Ra).below bX)
      clear Ka Ra
      have Ka := KN
      have Ra := RN
      clear KN RN
      have KN := hide ((unhide Kb).below bX)
      have RN := hide ((unhide Rb).below bX)
      clear Kb Rb
      have Kb := KN
      have Rb := RN
      clear KN RN
      have KN := hide ((unhide Kc).below bX)
      have RN := hide ((unhide Rc).below bX)
      clear Kc Rc
      have Kc := KN
      have Rc := RN
      clear KN RN
      have KN := hide ((unhide Ke).below bX)
      have RN := hide ((unhide Re).below bX)
      clear Ke Re
      have Ke := KN
      have Re := RN
      clear KN RN
      have KN := hide ((unhide Kf).below bX)
      have RN := hide ((unhide Rf).below bX)
      clear Kf Rf
      have Kf := KN
      have Rf := RN
      clear KN RN
      have KN := hide ((unhide Kw).below bX)
      have RN := hide ((unhide Rw).below bX)
      clear Kw Rw
      have Kw := KN
      have Rw := RN
      clear KN RN
      have BN := hide (belows (unhide BX) bX)
      clear BX bX
      have BX := BN
      clear BN
      have f0 := (unhide Kf).cell 0
      have f1 := (unhide Kf).cell 1
      have f2 := (unhide Kf).cell 2
      have f3 := (unhide Kf).cell 3
      have f4 := (unhide Kf).cell 4
      simp only [List.getElem?_toArray, List.getElem?_cons_succ, List.getElem?_cons_zero] at f0 f1 f2 f3 f4
      have w0 := (unhide Kw).cell 0
      have w1 := (unhide Kw).cell 1
      have w2 := (unhide Kw).cell 2
      have w3 := (unhide Kw).cell 3
      have w4 := (unhide Kw).cell 4
      simp only [List.getElem?_toArray, List.getElem?_cons_succ, List.getElem?_cons_zero] at w0 w1 w2 w3 w4
      go_wp2_with fail
      clear f0 w0 f1 w1 f2 w2 f3 w3 f4 w4
      refine (refSame_self ⟨room, files, (-1), -1, false⟩ (.slice a8 n8 cap8) (.slice a3 N cap3) _ (unhide Rf) (unhide Rw)).mono ?_
      rintro e y8 ⟨rfl, bX⟩
      have KN := hide ((unhide Ka).below bX)
      have RN := hide ((unhide Ra).below bX)
      clear Ka Ra
      have Ka := KN
      have Ra := RN
      clear KN RN
      have KN := hide ((unhide Kb).below bX)
      have RN := hide ((unhide Rb).below bX)
      clear Kb Rb
      have Kb := KN
      have Rb := RN
      clear KN RN
      have KN := hide ((unhide Kc).below bX)
      have RN := hide ((unhide Rc).below bX)
      clear Kc Rc
      have Kc := KN
      have Rc := RN
      clear KN RN
      have KN := hide ((unhide Ke).below bX)
      have RN := hide ((unhide Re).below bX)
      clear Ke Re
      have Ke := KN
      have Re := RN
      clear KN RN
      have KN := hide ((unhide Kf).below bX)
      have RN := hide ((unhide Rf).below bX)
      clear Kf Rf
      have Kf := KN
      have Rf := RN
      clear KN RN
      have KN := hide ((unhide Kw).below bX)
      have RN := hide ((unhide Rw).below bX)
      clear Kw Rw
      have Kw := KN
      have Rw := RN
      clear KN RN
      have BN := hide (belows (unhide BX) bX)
      clear BX bX
      have BX := BN
      clear BN
      go_wp2
      go_ret
      exact ⟨rfl, unhide BX⟩
    · skip
      injection g5 with j5 i5
      subst j5 i5
      injection g7 with j7 i7
      subst j7 i7
      apply wp_region_lit
      change wpList _ (List.toArray (_ :: _ :: _ :: _ :: _ :: _ :: _ :: _ :: _ :: _ :: _ :: _ :: _ :: _ :: _ :: _ :: _ :: _ :: _ :: _ :: _ :: _ :: _ :: _ :: _ :: _ :: _ :: _ :: _ :: _ :: _ :: _ :: _ :: _ :: _ :: _ :: _ :: _ :: _ :: _ :: _ :: _ :: _ :: _ :: _ :: _ :: _ :: _ :: _ :: _ :: _ :: _ :: _ :: _ :: _ :: _ :: _ :: _ :: _ :: _ :: _ :: _ :: _ :: _ :: [])) _ (_ :: _ :: _ :: _ :: _ :: _ :: _ :: _ :: _ :: _ :: _ :: _ :: _ :: _ :: _ :: _ :: _ :: _ :: _ :: _ :: _ :: _ :: _ :: _ :: _ :: _ :: _ :: _ :: _ :: _ :: _ :: _ :: _ :: _ :: _ :: _ :: _ :: _ :: _ :: _ :: _ :: _ :: _ :: _ :: _ :: _ :: _ :: _ :: _ :: _ :: _ :: _ :: _ :: _ :: _ :: _ :: _ :: _ :: _ :: _ :: _ :: _ :: _ :: _ :: []) _ _
      have b0 := (unhide Kb).cell 0
      have b1 := (unhide Kb).cell 1
      have b2 := (unhide Kb).cell 2
      have b3 := (unhide Kb).cell 3
      have b4 := (unhide Kb).cell 4
      simp only [List.getElem?_toArray, List.getElem?_cons_succ, List.getElem?_cons_zero] at b0 b1 b2 b3 b4
      have w0 := (unhide Kw).cell 0
      have w1 := (unhide Kw).cell 1
      have w2 := (unhide Kw).cell 2
      have w3 := (unhide Kw).cell 3
      have w4 := (unhide Kw).cell 4
      simp only [List.getElem?_toArray, List.getElem?_cons_succ, List.getElem?_cons_zero] at w0 w1 w2 w3 w4
      go_wp2_with fail
      clear b0 w0 b1 w1 b2 w2 b3 w3 b4 w4
      refine (refSame_self ⟨room, files, (-1), -1, false⟩ (.slice a5 n5 cap5) (.slice a3 N cap3) _ (unhide Rb) (unhide Rw)).mono ?_
      rintro e y5 ⟨rfl, bX⟩
      have KN := hide ((unhide Ka).below bX)
      have RN := hide ((unhide Ra).below bX)
      clear Ka Ra
      have Ka := KN
      have Ra := RN
      clear KN RN
      have KN := hide ((unhide Kb).below bX)
      have RN := hide ((unhide Rb).below bX)
      clear Kb Rb
      have Kb := KN
      have Rb := RN
      clear KN RN
      have KN := hide ((unhide Kc).below bX)
      have RN := hide ((unhide Rc).below bX)
      clear Kc Rc
      have Kc := KN
      have Rc := RN
      clear KN RN
      have KN := hide ((unhide Ke).below bX)
      have RN := hide ((unhide Re).below bX)
      clear Ke Re
      have Ke := KN
      have Re := RN
      clear KN RN
      have KN := hide ((unhide Kf).below bX)
      have RN := hide ((unhide Rf).below bX)
      clear Kf Rf
      have Kf := KN
      have Rf := RN
      clear KN RN
      have KN := hide ((unhide Kw).below bX)
      have RN := hide ((unhide Rw).below bX)
      clear Kw Rw
      have Kw := KN
      have Rw := RN
      clear KN RN
      have BN := hide (belows (unhide BX) bX)
      clear BX bX
      have BX := BN
      clear BN
      have c0 := (unhide Kc).cell 0
      have c1 := (unhide Kc).cell 1
      have c2 := (unhide Kc).cell 2
      have c3 := (unhide Kc).cell 3
      have c4 := (unhide Kc).cell 4
      simp only [List.getElem?_toArray, List.getElem?_cons_succ, List.getElem?_cons_zero] at c0 c1 c2 c3 c4
      have w0 := (unhide Kw).cell 0
      have w1 := (unhide Kw).cell 1
      have w2 := (unhide Kw).cell 2
      have w3 := (unhide Kw).cell 3
      have w4 := (unhide Kw).cell 4
      simp only [List.getElem?_toArray, List.getElem?_cons_succ, List.getElem?_cons_zero] at w0 w1 w2 w3 w4
      go_wp2_with fail
      clear c0 w0 c1 w1 c2 w2 c3 w3 c4 w4
      refine (refSame_self ⟨room, files, (-1), -1, false⟩ (.slice a6 n6 cap6) (.slice a3 N cap3) _ (unhide Rc) (unhide Rw)).mono ?_
      rintro e y6 ⟨rfl, bX⟩
      have KN := hide ((unhide Ka).below bX)
      have RN := hide ((unhide Ra).below bX)
      clear Ka Ra
      have Ka := KN
      have Ra := RN
      clear KN RN
      have KN := hide ((unhide Kb).below bX)
      have RN := hide ((unhide Rb).below bX)
      clear Kb Rb
      have Kb := KN
      have Rb := RN
      clear KN RN
      have KN := hide ((unhide Kc).below bX)
      have RN := hide ((unhide Rc).below bX)
      clear Kc Rc
      have Kc := KN
      have Rc := RN
      clear KN RN
      have KN := hide ((unhide Ke).below bX)
      have RN := hide ((unhide Re).below bX)
      clear Ke Re
      have Ke := KN
      have Re := RN
      clear KN RN
      have KN := hide ((unhide Kf).below bX)
      have RN := hide ((unhide Rf).below bX)
      clear Kf Rf
      have Kf := KN
      have Rf := RN
      clear KN RN
      have KN := hide ((unhide Kw).below bX)
      have RN := hide ((unhide Rw).below bX)
      clear Kw Rw
      have Kw := KN
      have Rw := RN
      clear KN RN
      have BN := hide (belows (unhide BX) bX)
      clear BX bX
      have BX := BN
      clear BN
      have f0 := (unhide Kf).cell 0
      have f1 := (unhide Kf).cell 1
      have f2 := (unhide Kf).cell 2
      have f3 := (unhide Kf).cell 3
      have f4 := (unhide Kf).cell 4
      simp only [List.getElem?_toArray, List.getElem?_cons_succ, List.getElem?_cons_zero] at f0 f1 f2 f3 f4
      have w0 := (unhide Kw).cell 0
      have w1 := (unhide Kw).cell 1
      have w2 := (unhide Kw).cell 2
      have w3 := (unhide Kw).cell 3
      have w4 := (unhide Kw).cell 4
      simp only [List.getElem?_toArray, List.getElem?_cons_succ, List.getElem?_cons_zero] at w0 w1 w2 w3 w4
      go_wp2_with fail
      clear f0 w0 f1 w1 f2 w2 f3 w3 f4 w4
      refine (refSame_self ⟨room, files, (-1), -1, false⟩ (.slice a8 n8 cap8) (.slice a3 N cap3) _ (unhide Rf) (unhide Rw)).mono ?_
      rintro e y8 ⟨rfl, bX⟩
      have KN := hide ((unhide Ka).below bX)
      have RN := hide ((unhide Ra).below bX)
      clear Ka Ra
      have Ka := KN
      have Ra := RN
      clear KN RN
      have KN := hide ((unhide Kb).below bX)
      have RN := hide ((unhide Rb).below bX)
      clear Kb Rb
      have Kb := KN
      have Rb := RN
      clear KN RN
      have KN := hide ((unhide Kc).below bX)
      have RN := hide ((unhide Rc).below bX)
      clear Kc Rc
      have Kc := KN
      have Rc := RN
      clear KN RN
      have KN := hide ((unhide Ke).below bX)
      have RN := hide ((unhide Re).below bX)
      clear Ke Re
      have Ke := KN
      have Re := RN
      clear KN RN
      have KN := hide ((unhide Kf).below bX)
      have RN := hide ((unhide Rf).below bX)
      clear Kf Rf
      have Kf := KN
      have Rf := RN
      clear KN RN
      have KN := hide ((unhide Kw).below bX)
      have RN := hide ((unhide Rw).below bX)
      clear Kw Rw
      have Kw := KN
      have Rw := RN
      clear KN RN
      have BN := hide (belows (unhide BX) bX)
      clear BX bX
      have BX := BN
      clear BN
      go_wp2
      go_ret
      exact ⟨rfl, unhide BX⟩
    · skip
      injection g5 with j5 i5
      subst j5 i5
      injection g7 with j7 i7
      subst j7 i7
      apply wp_region_lit
      change wpList _ (List.toArray (_ :: _ :: _ :: _ :: _ :: _ :: _ :: _ :: _ :: _ :: _ :: _ :: _ :: _ :: _ :: _ :: _ :: _ :: _ :: _ :: _ :: _ :: _ :: _ :: _ :: _ :: _ :: _ :: _ :: _ :: _ :: _ :: _ :: _ :: _ :: _ :: _ :: _ :: _ :: _ :: _ :: _ :: _ :: _ :: _ :: _ :: _ :: _ :: _ :: _ :: _ :: _ :: _ :: _ :: _ :: _ :: _ :: _ :: _ :: _ :: _ :: _ :: _ :: _ :: [])) _ (_ :: _ :: _ :: _ :: _ :: _ :: _ :: _ :: _ :: _ :: _ :: _ :: _ :: _ :: _ :: _ :: _ :: _ :: _ :: _ :: _ :: _ :: _ :: _ :: _ :: _ :: _ :: _ :: _ :: _ :: _ :: _ :: _ :: _ :: _ :: _ :: _ :: _ :: _ :: _ :: _ :: _ :: _ :: _ :: _ :: _ :: _ :: _ :: _ :: _ :: _ :: _ :: _ :: _ :: _ :: _ :: _ :: _ :: _ :: _ :: _ :: _ :: _ :: _ :: []) _ _
      have c0 := (unhide Kc).cell 0
      have c1 := (unhide Kc).cell 1
      have c2 := (unhide Kc).cell 2
      have c3 := (unhide Kc).cell 3
      have c4 := (unhide Kc).cell 4
      simp only [List.getElem?_toArray, List.getElem?_cons_succ, List.getElem?_cons_zero] at c0 c1 c2 c3 c4
      have w0 := (unhide Kw).cell 0
      have w1 := (unhide Kw).cell 1
      have w2 := (unhide Kw).cell 2
      have w3 := (unhide Kw).cell 3
      have w4 := (unhide Kw).cell 4
      simp only [List.getElem?_toArray, List.getElem?_cons_succ, List.getElem?_cons_zero] at w0 w1 w2 w3 w4
      go_wp2_with fail
      clear c0 w0 c1 w1 c2 w2 c3 w3 c4 w4
      refine (refSame_self ⟨room, files, (-1), -1, false⟩ (.slice a6 n6 cap6) (.slice a3 N cap3) _ (unhide Rc) (unhide Rw)).mono ?_
      rintro e y6 ⟨rfl, bX⟩
      have KN := hide ((unhide Ka).below bX)
      have RN := hide ((unhide Ra).below bX)
      clear Ka Ra
      have Ka := KN
      have Ra := RN
      clear KN RN
      have KN := hide ((unhide Kb).below bX)
      have RN := hide ((unhide Rb).below bX)
      clear Kb Rb
      have Kb := KN
      have Rb := RN
      clear KN RN
      have KN := hide ((unhide Kc).below bX)
      have RN := hide ((unhide Rc).below bX)
      clear Kc Rc
      have Kc := KN
      have Rc := RN
      clear KN RN
      have KN := hide ((unhide Ke).below bX)
      have RN := hide ((unhide Re).below bX)
      clear Ke Re
      have Ke := KN
      have Re := RN
      clear KN RN
      have KN := hide ((unhide Kf).below bX)
      have RN := hide ((unhide Rf).below bX)
      clear Kf Rf
      have Kf := KN
      have Rf := RN
      clear KN RN
      have KN := hide ((unhide Kw).below bX)
      have RN := hide ((unhide Rw).below bX)
      clear Kw Rw
      have Kw := KN
      have Rw := RN
      clear KN RN
      have BN := hide (belows (unhide BX) bX)
      clear BX bX
      have BX := BN
      clear BN
      have e0 := (unhide Ke).cell 0
      have e1 := (unhide Ke).cell 1
      have e2 := (unhide Ke).cell 2
      have e3 := (unhide Ke).cell 3
      have e4 := (unhide Ke).cell 4
      simp only [List.getElem?_toArray, List.getElem?_cons_succ, List.getElem?_cons_zero] at e0 e1 e2 e3 e4
      have w0 := (unhide Kw).cell 0
      have w1 := (unhide Kw).cell 1
      have w2 := (unhide Kw).cell 2
      have w3 := (unhide Kw).cell 3
      have w4 := (unhide Kw).cell 4
      simp only [List.getElem?_toArray, List.getElem?_cons_succ, List.getElem?_cons_zero] at w0 w1 w2 w3 w4
      go_wp2_with fail
      clear e0 w0 e1 w1 e2 w2 e3 w3 e4 w4
      refine (refSame_self ⟨room, files, (-1), -1, false⟩ (.slice a7 n7 cap7) (.slice a3 N cap3) _ (unhide Re) (unhide Rw)).mono ?_
      rintro e y7 ⟨rfl, bX⟩
      have KN := hide ((unhide Ka).below bX)
      have RN := hide ((unhide Ra).below bX)
      clear Ka Ra
      have Ka := KN
      have Ra := RN
      clear KN RN
      have KN := hide ((unhide Kb).below bX)
      have RN := hide ((unhide Rb).below bX)
      clear Kb Rb
      have Kb := KN
      have Rb := RN
      clear KN RN
      have KN := hide ((unhide Kc).below bX)
      have RN := hide ((unhide Rc).below bX)
      clear Kc Rc
      have Kc := KN
      have Rc := RN
      clear KN RN
      have KN := hide ((unhide Ke).below bX)
      have RN := hide ((unhide Re).below bX)
      clear Ke Re
      have Ke := KN
      have Re := RN
      clear KN RN
      have KN := hide ((unhide Kf).below bX)
      have RN := hide ((unhide Rf).below bX)
      clear Kf Rf
      have Kf := KN
      have Rf := RN
      clear KN RN
      have KN := hide ((unhide Kw).below bX)
      have RN := hide ((unhide Rw).below bX)
      clear Kw Rw
      have Kw := KN
      have Rw := RN
      clear KN RN
      have BN := hide (belows (unhide BX) bX)
      clear BX bX
      have BX := BN
      clear BN
      have f0 := (unhide Kf).cell 0
      have f1 := (unhide Kf).cell 1
      have f2 := (unhide Kf).cell 2
      have f3 := (unhide Kf).cell 3
      have f4 := (unhide Kf).cell 4
      simp only [List.getElem?_toArray, List.getElem?_cons_succ, List.getElem?_cons_zero] at f0 f1 f2 f3 f4
      have w0 := (unhide Kw).cell 0
      have w1 := (unhide Kw).cell 1
      have w2 := (unhide Kw).cell 2
      have w3 := (unhide Kw).cell 3
      have w4 := (unhide Kw).cell 4
      simp only [List.getElem?_toArray, List.getElem?_cons_succ, List.getElem?_cons_zero] at w0 w1 w2 w3 w4
      go_wp2_with fail
      clear f0 w0 f1 w1 f2 w2 f3 w3 f4 w4
      refine (refSame_self ⟨room, files, (-1), -1, false⟩ (.slice a8 n8 cap8) (.slice a3 N cap3) _ (unhide Rf) (unhide Rw)).mono ?_
      rintro e y8 ⟨rfl, bX⟩
      have KN := hide ((unhide Ka).below bX)
      have RN := hide ((unhide Ra).below bX)
      clear Ka Ra
      have Ka := KN
      have Ra := RN
      clear KN RN
      have KN := hide ((unhide Kb).below bX)
      have RN := hide ((unhide Rb).below bX)
      clear Kb Rb
      have Kb := KN
      have Rb := RN
      clear KN RN
      have KN := hide ((unhide Kc).below bX)
      have RN := hide ((unhide Rc).below bX)
      clear Kc Rc
      have Kc := KN
      have Rc := RN
      clear KN RN
      have KN := hide ((unhide Ke).below bX)
      have RN := hide ((unhide Re).below bX)
      clear Ke Re
      have Ke := KN
      have Re := RN
      clear KN RN
      have KN := hide ((unhide Kf).below bX)
      have RN := hide ((unhide Rf).below bX)
      clear Kf Rf
      have Kf := KN
      have Rf := RN
      clear KN RN
      have KN := hide ((unhide Kw).below bX)
      have RN := hide ((unhide Rw).below bX)
      clear Kw Rw
      have Kw := KN
      have Rw := RN
      clear KN RN
      have BN := hide (belows (unhide BX) bX)
      clear BX bX
      have BX := BN
      clear BN
      go_wp2
      go_ret
      exact ⟨rfl, unhide BX⟩
    · skip
      injection g5 with j5 i5
      subst j5 i5
      injection g7 with j7 i7
      subst j7 i7
      apply wp_region_lit
      change wpList _ (List.toArray (_ :: _ :: _ :: _ :: _ :: _ :: _ :: _ :: _ :: _ :: _ :: _ :: _ :: _ :: _ :: _ :: _ :: _ :: _ :: _ :: _ :: _ :: _ :: _ :: _ :: _ :: _ :: _ :: _ :: _ :: _ :: _ :: _ :: _ :: _ :: _ :: _ :: _ :: _ :: _ :: _ :: _ :: _ :: _ :: _ :: _ :: _ :: _ :: _ :: _ :: _ :: _ :: _ :: _ :: _ :: _ :: _ :: _ :: _ :: _ :: _ :: _ :: _ :: _ :: [])) _ (_ :: _ :: _ :: _ :: _ :: _ :: _ :: _ :: _ :: _ :: _ :: _ :: _ :: _ :: _ :: _ :: _ :: _ :: _ :: _ :: _ :: _ :: _ :: _ :: _ :: _ :: _ :: _ :: _ :: _ :: _ :: _ :: _ :: _ :: _ :: _ :: _ :: _ :: _ :: _ :: _ :: _ :: _ :: _ :: _ :: _ :: _ :: _ :: _ :: _ :: _ :: _ :: _ :: _ :: _ :: _ :: _ :: _ :: _ :: _ :: _ :: _ :: _ :: _ :: []) _ _
      have c0 := (unhide Kc).cell 0
      have c1 := (unhide Kc).cell 1
      have c2 := (unhide Kc).cell 2
      have c3 := (unhide Kc).cell 3
      have c4 := (unhide Kc).cell 4
      simp only [List.getElem?_toArray, List.getElem?_cons_succ, List.getElem?_cons_zero] at c0 c1 c2 c3 c4
      have w0 := (unhide Kw).cell 0
      have w1 := (unhide Kw).cell 1
      have w2 := (unhide Kw).cell 2
      have w3 := (unhide Kw).cell 3
      have w4 := (unhide Kw).cell 4
      simp only [List.getElem?_toArray, List.getElem?_cons_succ, List.getElem?_cons_zero] at w0 w1 w2 w3 w4
      go_wp2_with fail
      clear c0 w0 c1 w1 c2 w2 c3 w3 c4 w4
      refine (refSame_self ⟨room, files, (-1), -1, false⟩ (.slice a6 n6 cap6) (.slice a3 N cap3) _ (unhide Rc) (unhide Rw)).mono ?_
      rintro e y6 ⟨rfl, bX⟩
      have KN := hide ((unhide Ka).below bX)
      have RN := hide ((unhide Ra).below bX)
      clear Ka Ra
      have Ka := KN
      have Ra := RN
      clear KN RN
      have KN := hide ((unhide Kb).below bX)
      have RN := hide ((unhide Rb).below bX)
      clear Kb Rb
      have Kb := KN
      have Rb := RN
      clear KN RN
      have KN := hide ((unhide Kc).below bX)
      have RN := hide ((unhide Rc).below bX)
      clear Kc Rc
      have Kc := KN
      have Rc := RN
      clear KN RN
      have KN := hide ((unhide Ke).below bX)
      have RN := hide ((unhide Re).below bX)
      clear Ke Re
      have Ke := KN
      have Re := RN
      clear KN RN
      have KN := hide ((unhide Kf).below bX)
      have RN := hide ((unhide Rf).below bX)
      clear Kf Rf
      have Kf := KN
      have Rf := RN
      clear KN RN
      have KN := hide ((unhide Kw).below bX)
      have RN := hide ((unhide Rw).below bX)
      clear Kw Rw
      have Kw := KN
      have Rw := RN
      clear KN RN
      have BN := hide (belows (unhide BX) bX)
      clear BX bX
      have BX := BN
      clear BN
      have f0 := (unhide Kf).cell 0
      have f1 := (unhide Kf).cell 1
      have f2 := (unhide Kf).cell 2
      have f3 := (unhide Kf).cell 3
      have f4 := (unhide Kf).cell 4
      simp only [List.getElem?_toArray, List.getElem?_cons_succ, List.getElem?_cons_zero] at f0 f1 f2 f3 f4
      have w0 := (unhide Kw).cell 0
      have w1 := (unhide Kw).cell 1
      have w2 := (unhide Kw).cell 2
      have w3 := (unhide Kw).cell 3
      have w4 := (unhide Kw).cell 4
      simp only [List.getElem?_toArray, List.getElem?_cons_succ, List.getElem?_cons_zero] at w0 w1 w2 w3 w4
      go_wp2_with fail
      clear f0 w0 f1 w1 f2 w2 f3 w3 f4 w4
      refine (refSame_self ⟨room, files, (-1), -1, false⟩ (.slice a8 n8 cap8) (.slice a3 N cap3) _ (unhide Rf) (unhide Rw)).mono ?_
      rintro e y8 ⟨rfl, bX⟩
      have KN := hide ((unhide Ka).below bX)
      have RN := hide ((unhide Ra).below bX)
      clear Ka Ra
      have Ka := KN
      have Ra := RN
      clear KN RN
      have KN := hide ((unhide Kb).below bX)
      have RN := hide ((unhide Rb).below bX)
      clear Kb Rb
      have Kb := KN
      have Rb := RN
      clear KN RN
      have KN := hide ((unhide Kc).below bX)
      have RN := hide ((unhide Rc).below bX)
      clear Kc Rc
      have Kc := KN
      have Rc := RN
      clear KN RN
      have KN := hide ((unhide Ke).below bX)
      have RN := hide ((unhide Re).below bX)
      clear Ke Re
      have Ke := KN
      have Re := RN
      clear KN RN
      have KN := hide ((unhide Kf).below bX)
      have RN := hide ((unhide Rf).below bX)
      clear Kf Rf
      have Kf := KN
      have Rf := RN
      clear KN RN
      have KN := hide ((unhide Kw).below bX)
      have RN := hide ((unhide Rw).below bX)
      clear Kw Rw
      have Kw := KN
      have Rw := RN
      clear KN RN
      have BN := hide (belows (unhide BX) bX)
      clear BX bX
      have BX := BN
      clear BN
      go_wp2
      go_ret
      exact ⟨rfl, unhide BX⟩
end Go.Proofs.Ytagcdjjgflmihaa
