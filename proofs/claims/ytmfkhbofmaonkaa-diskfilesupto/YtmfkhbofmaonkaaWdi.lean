/-
  What missivelaw04.DiskFiles does, over this seat's program: it answers true.
-/
import Derived.Test.YtmfkhbofmaonkaaDqp
import Derived.Test.YtmfkhbofmaonkaaDqr
import Derived.Test.YtmfkhbofmaonkaaDqk
import Derived.Test.YtmfkhbofmaonkaaDqj
import Derived.Test.YtmfkhbofmaonkaaDlw
import Derived.Test.YtmfkhbofmaonkaaDqb
set_option linter.unusedVariables false
set_option linter.unusedSimpArgs false
namespace Go.Proofs.Ytmfkhbofmaonkaa
open Go.RowKit Go.Proofs.Dsk

theorem refSame_me (d : Fs) (v v' : Value) (w : World) (h : RowF w v d.files) (h' : RowF w v' d.files) :
    Calls Try.prog 17 #[fsV d v, fsV d v'] w fun e w' => e = .returned (.bool true) ∧ Below w.heap.size w w' := by
  have := refSame_any d d v v' w h h'
  rw [decide_eq_true rfl] at this
  exact this
theorem sameS_self (v v' : Value) (l : List ByteArray) (w : World) (h : RowS w v l) (h' : RowS w v' l) :
    Calls Try.prog 18 #[v, v'] w fun e w' => e = .returned (.bool true) ∧ Below w.heap.size w w' := by
  have := sameS_any v v' l l w h h'
  rw [decide_eq_true rfl] at this
  exact this

set_option maxHeartbeats 16000000 in
set_option maxRecDepth 100000 in
theorem diskFiles_walk (d : Fs) (v : Value) (name to : ByteArray) (room : Int) (w : World) (hfit : FitAll d) (h : RowF w v d.files) (hnt : NeatF v) (hl : d.files.length ≤ 1048576) (hname : name.size ≤ 281474976710656) (hto : to.size ≤ 281474976710656) (hr1 : -9223372036854775808 ≤ room) (hr2 : room ≤ 9223372036854775807) :
    Calls Try.prog 3 #[fsV d v, .string name, .string to, .int .i64 room] w fun e w' => e = .returned (.bool true) ∧ Below w.heap.size w w' := by
  have HCP := hide (fun (X : World) (hX : RowF X v d.files) => refCopy_any d v X hX hnt hl)
  have HLV := hide (fun X => lives_any X)
  have H1 := hide (fun (vv : Value) (X : World) (hX : RowF X vv d.files) => create_any d vv name X hfit hX hname)
  have G1 := hide (fun (X : World) (hX : RowF X v d.files) => refCreate_any d v name X hfit hX hnt hl hname)
  generalize createR d name = r1 at H1 G1
  obtain ⟨e1, z1⟩ := r1
  simp only at H1 G1
  have H2 := hide (fun (vv : Value) (X : World) (hX : RowF X vv d.files) => rename_any d vv name to X hfit hX hto)
  have G2 := hide (fun (X : World) (hX : RowF X v d.files) => refRename_any d v name to X hfit hX hnt hl hto)
  generalize renameR d name to = r2 at H2 G2
  obtain ⟨e2, z2⟩ := r2
  simp only at H2 G2
  have H3 := hide (fun (vv : Value) (X : World) (hX : RowF X vv d.files) => delete_any d vv name X hfit hX)
  have G3 := hide (fun (X : World) (hX : RowF X v d.files) => refDelete_any d v name X hfit hX hnt hl)
  generalize deleteR d name = r3 at H3 G3
  obtain ⟨e3, z3⟩ := r3
  simp only at H3 G3
  have H4 := hide (fun (vv : Value) (X : World) (hX : RowF X vv d.files) => list_any d vv X hfit hX)
  have G4 := hide (fun (X : World) (hX : RowF X v d.files) => refList_any d v X hfit hX)
  generalize listR d = r4 at H4 G4
  obtain ⟨e4, z4⟩ := r4
  simp only at H4 G4
  have H5 := hide (fun (X : World) => make_any room X hr1 hr2)
  have G5 := hide (fun (X : World) => refMake_any room X hr1 hr2)
  generalize makeR room = r5 at H5 G5
  obtain ⟨e5, z5⟩ := r5
  simp only at H5 G5
  have H6 := hide (fun (vv : Value) (X : World) (hX : RowF X vv d.files) => check_any d vv X hfit.1 hX)
  have G6 := hide (fun (X : World) (hX : RowF X v d.files) => refCheck_any d v X hfit.1 hX)
  generalize (if right d then 0 else 2 : Int) = z6 at H6 G6
  have hb0 := (Below.refl w.heap.size w).alloc (Nat.le_refl _) (Obj.cells #[.int .i64 d.room, v, .int .i64 d.fuse, .int .i64 d.fault, .bool d.down] 24)
  have k0 := Blk.new w 24 #[.int .i64 d.room, v, .int .i64 d.fuse, .int .i64 d.fault, .bool d.down]
  have HR0 := hide (h.below hb0)
  obtain ⟨a, cap, hv, h63, hff, _⟩ := id h
  subst hv
  obtain ⟨N, hN⟩ : ∃ N, d.files.length = N := ⟨_, rfl⟩
  have HN := hide hN
  have HFF := hide hff
  try rw [hN] at hl
  simp only [hN] at k0 HR0 h63 hb0 HCP H1 G1 H2 G2 H3 G3 H4 G4 H5 G5 H6 G6 ⊢
  have Kd := hide k0
  have Rd := HR0
  have BX := hide hb0
  clear k0 hb0 hN h hnt hfit HR0 hff
  simp only [fsV] at HCP H1 G1 H2 G2 H3 G3 H4 G4 H5 G5 H6 G6 ⊢
  go_enter Try.func3, Try.ntmps3
  have c0 := (unhide Kd).cell 0
  have c1 := (unhide Kd).cell 1
  have c2 := (unhide Kd).cell 2
  have c3 := (unhide Kd).cell 3
  have c4 := (unhide Kd).cell 4
  simp only [List.getElem?_toArray, List.getElem?_cons_succ, List.getElem?_cons_zero] at c0 c1 c2 c3 c4
  go_wp2_with fail
  clear c0 c1 c2 c3 c4
  refine (unhide HCP _ (unhide Rd)).mono ?_
  rintro e wg ⟨vg, rfl, own, bX⟩
  obtain ⟨ag, capg, rfl⟩ := own_form own
  have rg := rowF_of_own (l := d.files) (by rw [unhide HN]; exact own) (by have := unhide HN; omega) (unhide HFF)
  have KN := hide ((unhide Kd).below bX)
  clear Kd
  have Kd := KN
  clear KN
  have RN := hide ((unhide Rd).below bX)
  clear Rd
  have Rd := RN
  clear RN
  have BN := hide (belows (unhide BX) bX)
  clear BX
  have BX := BN
  clear BN
  clear bX own HCP
  have bal : Below wg.heap.size wg (wg.alloc (Obj.cells #[.int .i64 d.room, .slice ag N capg, .int .i64 d.fuse, .int .i64 d.fault, .bool d.down] 24)) := (Below.refl _ _).alloc (Nat.le_refl _) _
  have KN := hide ((unhide Kd).below bal)
  clear Kd
  have Kd := KN
  clear KN
  have RN := hide ((unhide Rd).below bal)
  clear Rd
  have Rd := RN
  clear RN
  have BN := hide (belows (unhide BX) bal)
  clear BX
  have BX := BN
  clear BN
  have Kg := hide (Blk.new wg 24 #[.int .i64 d.room, .slice ag N capg, .int .i64 d.fuse, .int .i64 d.fault, .bool d.down])
  have Rg := hide (rg.below bal)
  clear bal rg
  have c0 := (unhide Kg).cell 0
  have c1 := (unhide Kg).cell 1
  have c2 := (unhide Kg).cell 2
  have c3 := (unhide Kg).cell 3
  have c4 := (unhide Kg).cell 4
  simp only [List.getElem?_toArray, List.getElem?_cons_succ, List.getElem?_cons_zero] at c0 c1 c2 c3 c4
  go_wp2_with fail
  clear c0 c1 c2 c3 c4
  refine (unhide H1 _ _ (unhide Rg)).mono ?_
  rintro e w1 ⟨va, rfl, ra, _, bX⟩
  obtain ⟨aa, capa, hva, _⟩ := id ra
  subst hva
  have KN := hide ((unhide Kd).below bX)
  clear Kd
  have Kd := KN
  clear KN
  have RN := hide ((unhide Rd).below bX)
  clear Rd
  have Rd := RN
  clear RN
  have KN := hide ((unhide Kg).below bX)
  clear Kg
  have Kg := KN
  clear KN
  have RN := hide ((unhide Rg).below bX)
  clear Rg
  have Rg := RN
  clear RN
  have BN := hide (belows (unhide BX) bX)
  clear BX
  have BX := BN
  clear BN
  clear bX H1
  have bal : Below w1.heap.size w1 (w1.alloc (Obj.cells #[.int .i64 e1.room, .slice aa e1.files.length capa, .int .i64 e1.fuse, .int .i64 e1.fault, .bool e1.down] 24)) := (Below.refl _ _).alloc (Nat.le_refl _) _
  have KN := hide ((unhide Kd).below bal)
  clear Kd
  have Kd := KN
  clear KN
  have RN := hide ((unhide Rd).below bal)
  clear Rd
  have Rd := RN
  clear RN
  have KN := hide ((unhide Kg).below bal)
  clear Kg
  have Kg := KN
  clear KN
  have RN := hide ((unhide Rg).below bal)
  clear Rg
  have Rg := RN
  clear RN
  have BN := hide (belows (unhide BX) bal)
  clear BX
  have BX := BN
  clear BN
  have Ka := hide (Blk.new w1 24 #[.int .i64 e1.room, .slice aa e1.files.length capa, .int .i64 e1.fuse, .int .i64 e1.fault, .bool e1.down])
  have Ra := hide (ra.below bal)
  clear bal ra
  have c0 := (unhide Kd).cell 0
  have c1 := (unhide Kd).cell 1
  have c2 := (unhide Kd).cell 2
  have c3 := (unhide Kd).cell 3
  have c4 := (unhide Kd).cell 4
  simp only [List.getElem?_toArray, List.getElem?_cons_succ, List.getElem?_cons_zero] at c0 c1 c2 c3 c4
  go_wp2_with fail
  clear c0 c1 c2 c3 c4
  refine (unhide G1 _ (unhide Rd)).mono ?_
  rintro e w2 ⟨vb, rfl, rb, bX⟩
  obtain ⟨ab, capb, hvb, _⟩ := id rb
  subst hvb
  have KN := hide ((unhide Kd).below bX)
  clear Kd
  have Kd := KN
  clear KN
  have RN := hide ((unhide Rd).below bX)
  clear Rd
  have Rd := RN
  clear RN
  have KN := hide ((unhide Kg).below bX)
  clear Kg
  have Kg := KN
  clear KN
  have RN := hide ((unhide Rg).below bX)
  clear Rg
  have Rg := RN
  clear RN
  have KN := hide ((unhide Ka).below bX)
  clear Ka
  have Ka := KN
  clear KN
  have RN := hide ((unhide Ra).below bX)
  clear Ra
  have Ra := RN
  clear RN
  have BN := hide (belows (unhide BX) bX)
  clear BX
  have BX := BN
  clear BN
  clear bX G1
  have bal : Below w2.heap.size w2 (w2.alloc (Obj.cells #[.int .i64 e1.room, .slice ab e1.files.length capb, .int .i64 e1.fuse, .int .i64 e1.fault, .bool e1.down] 24)) := (Below.refl _ _).alloc (Nat.le_refl _) _
  have KN := hide ((unhide Kd).below bal)
  clear Kd
  have Kd := KN
  clear KN
  have RN := hide ((unhide Rd).below bal)
  clear Rd
  have Rd := RN
  clear RN
  have KN := hide ((unhide Kg).below bal)
  clear Kg
  have Kg := KN
  clear KN
  have RN := hide ((unhide Rg).below bal)
  clear Rg
  have Rg := RN
  clear RN
  have KN := hide ((unhide Ka).below bal)
  clear Ka
  have Ka := KN
  clear KN
  have RN := hide ((unhide Ra).below bal)
  clear Ra
  have Ra := RN
  clear RN
  have BN := hide (belows (unhide BX) bal)
  clear BX
  have BX := BN
  clear BN
  have Kb := hide (Blk.new w2 24 #[.int .i64 e1.room, .slice ab e1.files.length capb, .int .i64 e1.fuse, .int .i64 e1.fault, .bool e1.down])
  have Rb := hide (rb.below bal)
  clear bal rb
  have c0 := (unhide Kg).cell 0
  have c1 := (unhide Kg).cell 1
  have c2 := (unhide Kg).cell 2
  have c3 := (unhide Kg).cell 3
  have c4 := (unhide Kg).cell 4
  simp only [List.getElem?_toArray, List.getElem?_cons_succ, List.getElem?_cons_zero] at c0 c1 c2 c3 c4
  go_wp2_with fail
  clear c0 c1 c2 c3 c4
  refine (unhide H2 _ _ (unhide Rg)).mono ?_
  rintro e w3 ⟨vc, rfl, rc, _, bX⟩
  obtain ⟨ac, capc, hvc, _⟩ := id rc
  subst hvc
  have KN := hide ((unhide Kd).below bX)
  clear Kd
  have Kd := KN
  clear KN
  have RN := hide ((unhide Rd).below bX)
  clear Rd
  have Rd := RN
  clear RN
  have KN := hide ((unhide Kg).below bX)
  clear Kg
  have Kg := KN
  clear KN
  have RN := hide ((unhide Rg).below bX)
  clear Rg
  have Rg := RN
  clear RN
  have KN := hide ((unhide Ka).below bX)
  clear Ka
  have Ka := KN
  clear KN
  have RN := hide ((unhide Ra).below bX)
  clear Ra
  have Ra := RN
  clear RN
  have KN := hide ((unhide Kb).below bX)
  clear Kb
  have Kb := KN
  clear KN
  have RN := hide ((unhide Rb).below bX)
  clear Rb
  have Rb := RN
  clear RN
  have BN := hide (belows (unhide BX) bX)
  clear BX
  have BX := BN
  clear BN
  clear bX H2
  have bal : Below w3.heap.size w3 (w3.alloc (Obj.cells #[.int .i64 e2.room, .slice ac e2.files.length capc, .int .i64 e2.fuse, .int .i64 e2.fault, .bool e2.down] 24)) := (Below.refl _ _).alloc (Nat.le_refl _) _
  have KN := hide ((unhide Kd).below bal)
  clear Kd
  have Kd := KN
  clear KN
  have RN := hide ((unhide Rd).below bal)
  clear Rd
  have Rd := RN
  clear RN
  have KN := hide ((unhide Kg).below bal)
  clear Kg
  have Kg := KN
  clear KN
  have RN := hide ((unhide Rg).below bal)
  clear Rg
  have Rg := RN
  clear RN
  have KN := hide ((unhide Ka).below bal)
  clear Ka
  have Ka := KN
  clear KN
  have RN := hide ((unhide Ra).below bal)
  clear Ra
  have Ra := RN
  clear RN
  have KN := hide ((unhide Kb).below bal)
  clear Kb
  have Kb := KN
  clear KN
  have RN := hide ((unhide Rb).below bal)
  clear Rb
  have Rb := RN
  clear RN
  have BN := hide (belows (unhide BX) bal)
  clear BX
  have BX := BN
  clear BN
  have Kc := hide (Blk.new w3 24 #[.int .i64 e2.room, .slice ac e2.files.length capc, .int .i64 e2.fuse, .int .i64 e2.fault, .bool e2.down])
  have Rc := hide (rc.below bal)
  clear bal rc
  have c0 := (unhide Kd).cell 0
  have c1 := (unhide Kd).cell 1
  have c2 := (unhide Kd).cell 2
  have c3 := (unhide Kd).cell 3
  have c4 := (unhide Kd).cell 4
  simp only [List.getElem?_toArray, List.getElem?_cons_succ, List.getElem?_cons_zero] at c0 c1 c2 c3 c4
  go_wp2_with fail
  clear c0 c1 c2 c3 c4
  refine (unhide G2 _ (unhide Rd)).mono ?_
  rintro e w4 ⟨ve, rfl, re, bX⟩
  obtain ⟨ae, cape, hve, _⟩ := id re
  subst hve
  have KN := hide ((unhide Kd).below bX)
  clear Kd
  have Kd := KN
  clear KN
  have RN := hide ((unhide Rd).below bX)
  clear Rd
  have Rd := RN
  clear RN
  have KN := hide ((unhide Kg).below bX)
  clear Kg
  have Kg := KN
  clear KN
  have RN := hide ((unhide Rg).below bX)
  clear Rg
  have Rg := RN
  clear RN
  have KN := hide ((unhide Ka).below bX)
  clear Ka
  have Ka := KN
  clear KN
  have RN := hide ((unhide Ra).below bX)
  clear Ra
  have Ra := RN
  clear RN
  have KN := hide ((unhide Kb).below bX)
  clear Kb
  have Kb := KN
  clear KN
  have RN := hide ((unhide Rb).below bX)
  clear Rb
  have Rb := RN
  clear RN
  have KN := hide ((unhide Kc).below bX)
  clear Kc
  have Kc := KN
  clear KN
  have RN := hide ((unhide Rc).below bX)
  clear Rc
  have Rc := RN
  clear RN
  have BN := hide (belows (unhide BX) bX)
  clear BX
  have BX := BN
  clear BN
  clear bX G2
  have bal : Below w4.heap.size w4 (w4.alloc (Obj.cells #[.int .i64 e2.room, .slice ae e2.files.length cape, .int .i64 e2.fuse, .int .i64 e2.fault, .bool e2.down] 24)) := (Below.refl _ _).alloc (Nat.le_refl _) _
  have KN := hide ((unhide Kd).below bal)
  clear Kd
  have Kd := KN
  clear KN
  have RN := hide ((unhide Rd).below bal)
  clear Rd
  have Rd := RN
  clear RN
  have KN := hide ((unhide Kg).below bal)
  clear Kg
  have Kg := KN
  clear KN
  have RN := hide ((unhide Rg).below bal)
  clear Rg
  have Rg := RN
  clear RN
  have KN := hide ((unhide Ka).below bal)
  clear Ka
  have Ka := KN
  clear KN
  have RN := hide ((unhide Ra).below bal)
  clear Ra
  have Ra := RN
  clear RN
  have KN := hide ((unhide Kb).below bal)
  clear Kb
  have Kb := KN
  clear KN
  have RN := hide ((unhide Rb).below bal)
  clear Rb
  have Rb := RN
  clear RN
  have KN := hide ((unhide Kc).below bal)
  clear Kc
  have Kc := KN
  clear KN
  have RN := hide ((unhide Rc).below bal)
  clear Rc
  have Rc := RN
  clear RN
  have BN := hide (belows (unhide BX) bal)
  clear BX
  have BX := BN
  clear BN
  have Ke := hide (Blk.new w4 24 #[.int .i64 e2.room, .slice ae e2.files.length cape, .int .i64 e2.fuse, .int .i64 e2.fault, .bool e2.down])
  have Re := hide (re.below bal)
  clear bal re
  have c0 := (unhide Kg).cell 0
  have c1 := (unhide Kg).cell 1
  have c2 := (unhide Kg).cell 2
  have c3 := (unhide Kg).cell 3
  have c4 := (unhide Kg).cell 4
  simp only [List.getElem?_toArray, List.getElem?_cons_succ, List.getElem?_cons_zero] at c0 c1 c2 c3 c4
  go_wp2_with fail
  clear c0 c1 c2 c3 c4
  refine (unhide H3 _ _ (unhide Rg)).mono ?_
  rintro e w5 ⟨vf, rfl, rf, _, bX⟩
  obtain ⟨af, capf, hvf, _⟩ := id rf
  subst hvf
  have KN := hide ((unhide Kd).below bX)
  clear Kd
  have Kd := KN
  clear KN
  have RN := hide ((unhide Rd).below bX)
  clear Rd
  have Rd := RN
  clear RN
  have KN := hide ((unhide Kg).below bX)
  clear Kg
  have Kg := KN
  clear KN
  have RN := hide ((unhide Rg).below bX)
  clear Rg
  have Rg := RN
  clear RN
  have KN := hide ((unhide Ka).below bX)
  clear Ka
  have Ka := KN
  clear KN
  have RN := hide ((unhide Ra).below bX)
  clear Ra
  have Ra := RN
  clear RN
  have KN := hide ((unhide Kb).below bX)
  clear Kb
  have Kb := KN
  clear KN
  have RN := hide ((unhide Rb).below bX)
  clear Rb
  have Rb := RN
  clear RN
  have KN := hide ((unhide Kc).below bX)
  clear Kc
  have Kc := KN
  clear KN
  have RN := hide ((unhide Rc).below bX)
  clear Rc
  have Rc := RN
  clear RN
  have KN := hide ((unhide Ke).below bX)
  clear Ke
  have Ke := KN
  clear KN
  have RN := hide ((unhide Re).below bX)
  clear Re
  have Re := RN
  clear RN
  have BN := hide (belows (unhide BX) bX)
  clear BX
  have BX := BN
  clear BN
  clear bX H3
  have bal : Below w5.heap.size w5 (w5.alloc (Obj.cells #[.int .i64 e3.room, .slice af e3.files.length capf, .int .i64 e3.fuse, .int .i64 e3.fault, .bool e3.down] 24)) := (Below.refl _ _).alloc (Nat.le_refl _) _
  have KN := hide ((unhide Kd).below bal)
  clear Kd
  have Kd := KN
  clear KN
  have RN := hide ((unhide Rd).below bal)
  clear Rd
  have Rd := RN
  clear RN
  have KN := hide ((unhide Kg).below bal)
  clear Kg
  have Kg := KN
  clear KN
  have RN := hide ((unhide Rg).below bal)
  clear Rg
  have Rg := RN
  clear RN
  have KN := hide ((unhide Ka).below bal)
  clear Ka
  have Ka := KN
  clear KN
  have RN := hide ((unhide Ra).below bal)
  clear Ra
  have Ra := RN
  clear RN
  have KN := hide ((unhide Kb).below bal)
  clear Kb
  have Kb := KN
  clear KN
  have RN := hide ((unhide Rb).below bal)
  clear Rb
  have Rb := RN
  clear RN
  have KN := hide ((unhide Kc).below bal)
  clear Kc
  have Kc := KN
  clear KN
  have RN := hide ((unhide Rc).below bal)
  clear Rc
  have Rc := RN
  clear RN
  have KN := hide ((unhide Ke).below bal)
  clear Ke
  have Ke := KN
  clear KN
  have RN := hide ((unhide Re).below bal)
  clear Re
  have Re := RN
  clear RN
  have BN := hide (belows (unhide BX) bal)
  clear BX
  have BX := BN
  clear BN
  have Kf := hide (Blk.new w5 24 #[.int .i64 e3.room, .slice af e3.files.length capf, .int .i64 e3.fuse, .int .i64 e3.fault, .bool e3.down])
  have Rf := hide (rf.below bal)
  clear bal rf
  have c0 := (unhide Kd).cell 0
  have c1 := (unhide Kd).cell 1
  have c2 := (unhide Kd).cell 2
  have c3 := (unhide Kd).cell 3
  have c4 := (unhide Kd).cell 4
  simp only [List.getElem?_toArray, List.getElem?_cons_succ, List.getElem?_cons_zero] at c0 c1 c2 c3 c4
  go_wp2_with fail
  clear c0 c1 c2 c3 c4
  refine (unhide G3 _ (unhide Rd)).mono ?_
  rintro e w6 ⟨vh, rfl, rh, bX⟩
  obtain ⟨ah, caph, hvh, _⟩ := id rh
  subst hvh
  have KN := hide ((unhide Kd).below bX)
  clear Kd
  have Kd := KN
  clear KN
  have RN := hide ((unhide Rd).below bX)
  clear Rd
  have Rd := RN
  clear RN
  have KN := hide ((unhide Kg).below bX)
  clear Kg
  have Kg := KN
  clear KN
  have RN := hide ((unhide Rg).below bX)
  clear Rg
  have Rg := RN
  clear RN
  have KN := hide ((unhide Ka).below bX)
  clear Ka
  have Ka := KN
  clear KN
  have RN := hide ((unhide Ra).below bX)
  clear Ra
  have Ra := RN
  clear RN
  have KN := hide ((unhide Kb).below bX)
  clear Kb
  have Kb := KN
  clear KN
  have RN := hide ((unhide Rb).below bX)
  clear Rb
  have Rb := RN
  clear RN
  have KN := hide ((unhide Kc).below bX)
  clear Kc
  have Kc := KN
  clear KN
  have RN := hide ((unhide Rc).below bX)
  clear Rc
  have Rc := RN
  clear RN
  have KN := hide ((unhide Ke).below bX)
  clear Ke
  have Ke := KN
  clear KN
  have RN := hide ((unhide Re).below bX)
  clear Re
  have Re := RN
  clear RN
  have KN := hide ((unhide Kf).below bX)
  clear Kf
  have Kf := KN
  clear KN
  have RN := hide ((unhide Rf).below bX)
  clear Rf
  have Rf := RN
  clear RN
  have BN := hide (belows (unhide BX) bX)
  clear BX
  have BX := BN
  clear BN
  clear bX G3
  have bal : Below w6.heap.size w6 (w6.alloc (Obj.cells #[.int .i64 e3.room, .slice ah e3.files.length caph, .int .i64 e3.fuse, .int .i64 e3.fault, .bool e3.down] 24)) := (Below.refl _ _).alloc (Nat.le_refl _) _
  have KN := hide ((unhide Kd).below bal)
  clear Kd
  have Kd := KN
  clear KN
  have RN := hide ((unhide Rd).below bal)
  clear Rd
  have Rd := RN
  clear RN
  have KN := hide ((unhide Kg).below bal)
  clear Kg
  have Kg := KN
  clear KN
  have RN := hide ((unhide Rg).below bal)
  clear Rg
  have Rg := RN
  clear RN
  have KN := hide ((unhide Ka).below bal)
  clear Ka
  have Ka := KN
  clear KN
  have RN := hide ((unhide Ra).below bal)
  clear Ra
  have Ra := RN
  clear RN
  have KN := hide ((unhide Kb).below bal)
  clear Kb
  have Kb := KN
  clear KN
  have RN := hide ((unhide Rb).below bal)
  clear Rb
  have Rb := RN
  clear RN
  have KN := hide ((unhide Kc).below bal)
  clear Kc
  have Kc := KN
  clear KN
  have RN := hide ((unhide Rc).below bal)
  clear Rc
  have Rc := RN
  clear RN
  have KN := hide ((unhide Ke).below bal)
  clear Ke
  have Ke := KN
  clear KN
  have RN := hide ((unhide Re).below bal)
  clear Re
  have Re := RN
  clear RN
  have KN := hide ((unhide Kf).below bal)
  clear Kf
  have Kf := KN
  clear KN
  have RN := hide ((unhide Rf).below bal)
  clear Rf
  have Rf := RN
  clear RN
  have BN := hide (belows (unhide BX) bal)
  clear BX
  have BX := BN
  clear BN
  have Kh := hide (Blk.new w6 24 #[.int .i64 e3.room, .slice ah e3.files.length caph, .int .i64 e3.fuse, .int .i64 e3.fault, .bool e3.down])
  have Rh := hide (rh.below bal)
  clear bal rh
  have c0 := (unhide Kg).cell 0
  have c1 := (unhide Kg).cell 1
  have c2 := (unhide Kg).cell 2
  have c3 := (unhide Kg).cell 3
  have c4 := (unhide Kg).cell 4
  simp only [List.getElem?_toArray, List.getElem?_cons_succ, List.getElem?_cons_zero] at c0 c1 c2 c3 c4
  go_wp2_with fail
  clear c0 c1 c2 c3 c4
  refine (unhide H4 _ _ (unhide Rg)).mono ?_
  rintro e w7 ⟨vl, rfl, rl, bX⟩
  have KN := hide ((unhide Kd).below bX)
  clear Kd
  have Kd := KN
  clear KN
  have RN := hide ((unhide Rd).below bX)
  clear Rd
  have Rd := RN
  clear RN
  have KN := hide ((unhide Kg).below bX)
  clear Kg
  have Kg := KN
  clear KN
  have RN := hide ((unhide Rg).below bX)
  clear Rg
  have Rg := RN
  clear RN
  have KN := hide ((unhide Ka).below bX)
  clear Ka
  have Ka := KN
  clear KN
  have RN := hide ((unhide Ra).below bX)
  clear Ra
  have Ra := RN
  clear RN
  have KN := hide ((unhide Kb).below bX)
  clear Kb
  have Kb := KN
  clear KN
  have RN := hide ((unhide Rb).below bX)
  clear Rb
  have Rb := RN
  clear RN
  have KN := hide ((unhide Kc).below bX)
  clear Kc
  have Kc := KN
  clear KN
  have RN := hide ((unhide Rc).below bX)
  clear Rc
  have Rc := RN
  clear RN
  have KN := hide ((unhide Ke).below bX)
  clear Ke
  have Ke := KN
  clear KN
  have RN := hide ((unhide Re).below bX)
  clear Re
  have Re := RN
  clear RN
  have KN := hide ((unhide Kf).below bX)
  clear Kf
  have Kf := KN
  clear KN
  have RN := hide ((unhide Rf).below bX)
  clear Rf
  have Rf := RN
  clear RN
  have KN := hide ((unhide Kh).below bX)
  clear Kh
  have Kh := KN
  clear KN
  have RN := hide ((unhide Rh).below bX)
  clear Rh
  have Rh := RN
  clear RN
  have BN := hide (belows (unhide BX) bX)
  clear BX
  have BX := BN
  clear BN
  have Rl := hide rl
  obtain ⟨al, capl, hvl, _⟩ := id rl
  subst hvl
  clear bX H4 rl
  have c0 := (unhide Kd).cell 0
  have c1 := (unhide Kd).cell 1
  have c2 := (unhide Kd).cell 2
  have c3 := (unhide Kd).cell 3
  have c4 := (unhide Kd).cell 4
  simp only [List.getElem?_toArray, List.getElem?_cons_succ, List.getElem?_cons_zero] at c0 c1 c2 c3 c4
  go_wp2_with fail
  clear c0 c1 c2 c3 c4
  refine (unhide G4 _ (unhide Rd)).mono ?_
  rintro e w8 ⟨vm, rfl, rm, bX⟩
  have KN := hide ((unhide Kd).below bX)
  clear Kd
  have Kd := KN
  clear KN
  have RN := hide ((unhide Rd).below bX)
  clear Rd
  have Rd := RN
  clear RN
  have KN := hide ((unhide Kg).below bX)
  clear Kg
  have Kg := KN
  clear KN
  have RN := hide ((unhide Rg).below bX)
  clear Rg
  have Rg := RN
  clear RN
  have KN := hide ((unhide Ka).below bX)
  clear Ka
  have Ka := KN
  clear KN
  have RN := hide ((unhide Ra).below bX)
  clear Ra
  have Ra := RN
  clear RN
  have KN := hide ((unhide Kb).below bX)
  clear Kb
  have Kb := KN
  clear KN
  have RN := hide ((unhide Rb).below bX)
  clear Rb
  have Rb := RN
  clear RN
  have KN := hide ((unhide Kc).below bX)
  clear Kc
  have Kc := KN
  clear KN
  have RN := hide ((unhide Rc).below bX)
  clear Rc
  have Rc := RN
  clear RN
  have KN := hide ((unhide Ke).below bX)
  clear Ke
  have Ke := KN
  clear KN
  have RN := hide ((unhide Re).below bX)
  clear Re
  have Re := RN
  clear RN
  have KN := hide ((unhide Kf).below bX)
  clear Kf
  have Kf := KN
  clear KN
  have RN := hide ((unhide Rf).below bX)
  clear Rf
  have Rf := RN
  clear RN
  have KN := hide ((unhide Kh).below bX)
  clear Kh
  have Kh := KN
  clear KN
  have RN := hide ((unhide Rh).below bX)
  clear Rh
  have Rh := RN
  clear RN
  have RN := hide ((unhide Rl).below bX)
  clear Rl
  have Rl := RN
  clear RN
  have BN := hide (belows (unhide BX) bX)
  clear BX
  have BX := BN
  clear BN
  have Rm := hide rm
  obtain ⟨am, capm, hvm, _⟩ := id rm
  subst hvm
  clear bX G4 rm
  go_wp2_with fail
  refine (unhide H5 _).mono ?_
  rintro e w9 ⟨vx, rfl, rx, _, bX⟩
  obtain ⟨ax, capx, hvx, _⟩ := id rx
  subst hvx
  have KN := hide ((unhide Kd).below bX)
  clear Kd
  have Kd := KN
  clear KN
  have RN := hide ((unhide Rd).below bX)
  clear Rd
  have Rd := RN
  clear RN
  have KN := hide ((unhide Kg).below bX)
  clear Kg
  have Kg := KN
  clear KN
  have RN := hide ((unhide Rg).below bX)
  clear Rg
  have Rg := RN
  clear RN
  have KN := hide ((unhide Ka).below bX)
  clear Ka
  have Ka := KN
  clear KN
  have RN := hide ((unhide Ra).below bX)
  clear Ra
  have Ra := RN
  clear RN
  have KN := hide ((unhide Kb).below bX)
  clear Kb
  have Kb := KN
  clear KN
  have RN := hide ((unhide Rb).below bX)
  clear Rb
  have Rb := RN
  clear RN
  have KN := hide ((unhide Kc).below bX)
  clear Kc
  have Kc := KN
  clear KN
  have RN := hide ((unhide Rc).below bX)
  clear Rc
  have Rc := RN
  clear RN
  have KN := hide ((unhide Ke).below bX)
  clear Ke
  have Ke := KN
  clear KN
  have RN := hide ((unhide Re).below bX)
  clear Re
  have Re := RN
  clear RN
  have KN := hide ((unhide Kf).below bX)
  clear Kf
  have Kf := KN
  clear KN
  have RN := hide ((unhide Rf).below bX)
  clear Rf
  have Rf := RN
  clear RN
  have KN := hide ((unhide Kh).below bX)
  clear Kh
  have Kh := KN
  clear KN
  have RN := hide ((unhide Rh).below bX)
  clear Rh
  have Rh := RN
  clear RN
  have RN := hide ((unhide Rl).below bX)
  clear Rl
  have Rl := RN
  clear RN
  have RN := hide ((unhide Rm).below bX)
  clear Rm
  have Rm := RN
  clear RN
  have BN := hide (belows (unhide BX) bX)
  clear BX
  have BX := BN
  clear BN
  clear bX H5
  have bal : Below w9.heap.size w9 (w9.alloc (Obj.cells #[.int .i64 e5.room, .slice ax e5.files.length capx, .int .i64 e5.fuse, .int .i64 e5.fault, .bool e5.down] 24)) := (Below.refl _ _).alloc (Nat.le_refl _) _
  have KN := hide ((unhide Kd).below bal)
  clear Kd
  have Kd := KN
  clear KN
  have RN := hide ((unhide Rd).below bal)
  clear Rd
  have Rd := RN
  clear RN
  have KN := hide ((unhide Kg).below bal)
  clear Kg
  have Kg := KN
  clear KN
  have RN := hide ((unhide Rg).below bal)
  clear Rg
  have Rg := RN
  clear RN
  have KN := hide ((unhide Ka).below bal)
  clear Ka
  have Ka := KN
  clear KN
  have RN := hide ((unhide Ra).below bal)
  clear Ra
  have Ra := RN
  clear RN
  have KN := hide ((unhide Kb).below bal)
  clear Kb
  have Kb := KN
  clear KN
  have RN := hide ((unhide Rb).below bal)
  clear Rb
  have Rb := RN
  clear RN
  have KN := hide ((unhide Kc).below bal)
  clear Kc
  have Kc := KN
  clear KN
  have RN := hide ((unhide Rc).below bal)
  clear Rc
  have Rc := RN
  clear RN
  have KN := hide ((unhide Ke).below bal)
  clear Ke
  have Ke := KN
  clear KN
  have RN := hide ((unhide Re).below bal)
  clear Re
  have Re := RN
  clear RN
  have KN := hide ((unhide Kf).below bal)
  clear Kf
  have Kf := KN
  clear KN
  have RN := hide ((unhide Rf).below bal)
  clear Rf
  have Rf := RN
  clear RN
  have KN := hide ((unhide Kh).below bal)
  clear Kh
  have Kh := KN
  clear KN
  have RN := hide ((unhide Rh).below bal)
  clear Rh
  have Rh := RN
  clear RN
  have RN := hide ((unhide Rl).below bal)
  clear Rl
  have Rl := RN
  clear RN
  have RN := hide ((unhide Rm).below bal)
  clear Rm
  have Rm := RN
  clear RN
  have BN := hide (belows (unhide BX) bal)
  clear BX
  have BX := BN
  clear BN
  have Kx := hide (Blk.new w9 24 #[.int .i64 e5.room, .slice ax e5.files.length capx, .int .i64 e5.fuse, .int .i64 e5.fault, .bool e5.down])
  have Rx := hide (rx.below bal)
  clear bal rx
  go_wp2_with fail
  refine (unhide G5 _).mono ?_
  rintro e w10 ⟨vy, rfl, ry, bX⟩
  obtain ⟨ay, capy, hvy, _⟩ := id ry
  subst hvy
  have KN := hide ((unhide Kd).below bX)
  clear Kd
  have Kd := KN
  clear KN
  have RN := hide ((unhide Rd).below bX)
  clear Rd
  have Rd := RN
  clear RN
  have KN := hide ((unhide Kg).below bX)
  clear Kg
  have Kg := KN
  clear KN
  have RN := hide ((unhide Rg).below bX)
  clear Rg
  have Rg := RN
  clear RN
  have KN := hide ((unhide Ka).below bX)
  clear Ka
  have Ka := KN
  clear KN
  have RN := hide ((unhide Ra).below bX)
  clear Ra
  have Ra := RN
  clear RN
  have KN := hide ((unhide Kb).below bX)
  clear Kb
  have Kb := KN
  clear KN
  have RN := hide ((unhide Rb).below bX)
  clear Rb
  have Rb := RN
  clear RN
  have KN := hide ((unhide Kc).below bX)
  clear Kc
  have Kc := KN
  clear KN
  have RN := hide ((unhide Rc).below bX)
  clear Rc
  have Rc := RN
  clear RN
  have KN := hide ((unhide Ke).below bX)
  clear Ke
  have Ke := KN
  clear KN
  have RN := hide ((unhide Re).below bX)
  clear Re
  have Re := RN
  clear RN
  have KN := hide ((unhide Kf).below bX)
  clear Kf
  have Kf := KN
  clear KN
  have RN := hide ((unhide Rf).below bX)
  clear Rf
  have Rf := RN
  clear RN
  have KN := hide ((unhide Kh).below bX)
  clear Kh
  have Kh := KN
  clear KN
  have RN := hide ((unhide Rh).below bX)
  clear Rh
  have Rh := RN
  clear RN
  have RN := hide ((unhide Rl).below bX)
  clear Rl
  have Rl := RN
  clear RN
  have RN := hide ((unhide Rm).below bX)
  clear Rm
  have Rm := RN
  clear RN
  have KN := hide ((unhide Kx).below bX)
  clear Kx
  have Kx := KN
  clear KN
  have RN := hide ((unhide Rx).below bX)
  clear Rx
  have Rx := RN
  clear RN
  have BN := hide (belows (unhide BX) bX)
  clear BX
  have BX := BN
  clear BN
  clear bX G5
  have bal : Below w10.heap.size w10 (w10.alloc (Obj.cells #[.int .i64 e5.room, .slice ay e5.files.length capy, .int .i64 e5.fuse, .int .i64 e5.fault, .bool e5.down] 24)) := (Below.refl _ _).alloc (Nat.le_refl _) _
  have KN := hide ((unhide Kd).below bal)
  clear Kd
  have Kd := KN
  clear KN
  have RN := hide ((unhide Rd).below bal)
  clear Rd
  have Rd := RN
  clear RN
  have KN := hide ((unhide Kg).below bal)
  clear Kg
  have Kg := KN
  clear KN
  have RN := hide ((unhide Rg).below bal)
  clear Rg
  have Rg := RN
  clear RN
  have KN := hide ((unhide Ka).below bal)
  clear Ka
  have Ka := KN
  clear KN
  have RN := hide ((unhide Ra).below bal)
  clear Ra
  have Ra := RN
  clear RN
  have KN := hide ((unhide Kb).below bal)
  clear Kb
  have Kb := KN
  clear KN
  have RN := hide ((unhide Rb).below bal)
  clear Rb
  have Rb := RN
  clear RN
  have KN := hide ((unhide Kc).below bal)
  clear Kc
  have Kc := KN
  clear KN
  have RN := hide ((unhide Rc).below bal)
  clear Rc
  have Rc := RN
  clear RN
  have KN := hide ((unhide Ke).below bal)
  clear Ke
  have Ke := KN
  clear KN
  have RN := hide ((unhide Re).below bal)
  clear Re
  have Re := RN
  clear RN
  have KN := hide ((unhide Kf).below bal)
  clear Kf
  have Kf := KN
  clear KN
  have RN := hide ((unhide Rf).below bal)
  clear Rf
  have Rf := RN
  clear RN
  have KN := hide ((unhide Kh).below bal)
  clear Kh
  have Kh := KN
  clear KN
  have RN := hide ((unhide Rh).below bal)
  clear Rh
  have Rh := RN
  clear RN
  have RN := hide ((unhide Rl).below bal)
  clear Rl
  have Rl := RN
  clear RN
  have RN := hide ((unhide Rm).below bal)
  clear Rm
  have Rm := RN
  clear RN
  have KN := hide ((unhide Kx).below bal)
  clear Kx
  have Kx := KN
  clear KN
  have RN := hide ((unhide Rx).below bal)
  clear Rx
  have Rx := RN
  clear RN
  have BN := hide (belows (unhide BX) bal)
  clear BX
  have BX := BN
  clear BN
  have Ky := hide (Blk.new w10 24 #[.int .i64 e5.room, .slice ay e5.files.length capy, .int .i64 e5.fuse, .int .i64 e5.fault, .bool e5.down])
  have Ry := hide (ry.below bal)
  clear bal ry
  go_upto_region 12 with (fail)
  generalize (w10.alloc (Obj.cells #[.int .i64 e5.room, .slice ay e5.files.length capy, .int .i64 e5.fuse, .int .i64 e5.fault, .bool e5.down] 24)) = V at *
  change Code.wp _ (Code.region _ (List.toArray (_ :: _ :: _ :: _ :: _ :: _ :: _ :: _ :: _ :: _ :: _ :: _ :: _ :: _ :: _ :: _ :: _ :: _ :: _ :: _ :: _ :: _ :: _ :: _ :: _ :: _ :: _ :: _ :: _ :: _ :: _ :: _ :: _ :: _ :: _ :: _ :: _ :: _ :: _ :: _ :: _ :: _ :: _ :: _ :: _ :: _ :: _ :: _ :: _ :: _ :: _ :: _ :: _ :: _ :: _ :: _ :: _ :: _ :: _ :: _ :: _ :: _ :: _ :: _ :: [])) _) _ _ _
  have bD : Below V.heap.size V V.drew := below_dr1 (Below.refl _ _)
  refine wp_region_held_drew (S := fun w' => Below V.heap.size V w') (by kernel_rfl) ?_ (fun hHeld => ?_)
  · exact bD
  refine wpAnyH_ready (rs := [0]) (by kernel_rfl) (by simp) ?_
  refine AllReadyH.cons rfl (fun K hK => ?_) AllReadyH.nil
  have hB : Below V.heap.size V _ := hHeld
  go_simp
  refine (unhide HLV _).mono ?_
  rintro e y0 ⟨rfl, bX⟩
  have hy0 : Below V.heap.size V y0 := belows hB bX
  clear bX hB
  go_wp2_with fail
  refine hK.out _ _ ?_ (fun hHeld => ?_)
  · exact hy0
  clear hK K
  (try simp only [Act.put, List.setIfInBounds_toArray, List.set_cons_zero, List.set_cons_succ])
  refine wpAnyH_take (i := 1) (v := .bool true) rfl (by kernel_rfl) (by kernel_rfl) (by kernel_rfl) (fun _ _ _ h => h) (Or.inl ⟨by kernel_rfl, fun wS hSw => ?_⟩) (by assumption) ?_
  · (try dsimp only at hSw); go_simp
  (try simp only [Act.put, List.setIfInBounds_toArray, List.set_cons_zero, List.set_cons_succ])
  refine wpAnyH_take (i := 2) (v := .agg #[.int .i64 e1.room, .slice aa e1.files.length capa, .int .i64 e1.fuse, .int .i64 e1.fault, .bool e1.down]) rfl (by kernel_rfl) (by kernel_rfl) (by kernel_rfl) (fun _ _ _ h => h) (Or.inl ⟨by kernel_rfl, fun wS hSw => ?_⟩) (by assumption) ?_
  · (try dsimp only at hSw); have c0 := ((unhide Ka).below hSw).cell 0; have c1 := ((unhide Ka).below hSw).cell 1; have c2 := ((unhide Ka).below hSw).cell 2; have c3 := ((unhide Ka).below hSw).cell 3; have c4 := ((unhide Ka).below hSw).cell 4; simp only [List.getElem?_toArray, List.getElem?_cons_succ, List.getElem?_cons_zero] at c0 c1 c2 c3 c4; go_simp
  (try simp only [Act.put, List.setIfInBounds_toArray, List.set_cons_zero, List.set_cons_succ])
  refine wpAnyH_take (i := 3) (v := .agg #[.int .i64 e1.room, .slice ab e1.files.length capb, .int .i64 e1.fuse, .int .i64 e1.fault, .bool e1.down]) rfl (by kernel_rfl) (by kernel_rfl) (by kernel_rfl) (fun _ _ _ h => h) (Or.inl ⟨by kernel_rfl, fun wS hSw => ?_⟩) (by assumption) ?_
  · (try dsimp only at hSw); have c0 := ((unhide Kb).below hSw).cell 0; have c1 := ((unhide Kb).below hSw).cell 1; have c2 := ((unhide Kb).below hSw).cell 2; have c3 := ((unhide Kb).below hSw).cell 3; have c4 := ((unhide Kb).below hSw).cell 4; simp only [List.getElem?_toArray, List.getElem?_cons_succ, List.getElem?_cons_zero] at c0 c1 c2 c3 c4; go_simp
  (try simp only [Act.put, List.setIfInBounds_toArray, List.set_cons_zero, List.set_cons_succ])
  refine wpAnyH_ready (rs := [4]) (by kernel_rfl) (by simp) ?_
  refine AllReadyH.cons rfl (fun K hK => ?_) AllReadyH.nil
  have hB : Below V.heap.size V _ := hHeld
  go_simp
  refine (refSame_me e1 (.slice aa e1.files.length capa) (.slice ab e1.files.length capb) _ ((unhide Ra).below hB) ((unhide Rb).below hB)).mono ?_
  rintro e y1 ⟨rfl, bX⟩
  have hy1 : Below V.heap.size V y1 := belows hB bX
  clear bX hB
  go_wp2_with fail
  refine hK.out _ _ ?_ (fun hHeld => ?_)
  · exact hy1
  clear hK K
  (try simp only [Act.put, List.setIfInBounds_toArray, List.set_cons_zero, List.set_cons_succ])
  refine wpAnyH_take (i := 5) (v := .bool true) rfl (by kernel_rfl) (by kernel_rfl) (by kernel_rfl) (fun _ _ _ h => h) (Or.inl ⟨by kernel_rfl, fun wS hSw => ?_⟩) (by assumption) ?_
  · (try dsimp only at hSw); go_simp
  (try simp only [Act.put, List.setIfInBounds_toArray, List.set_cons_zero, List.set_cons_succ])
  refine wpAnyH_take (i := 6) (v := .bool true) rfl (by kernel_rfl) (by kernel_rfl) (by kernel_rfl) (fun _ _ _ h => h) (Or.inl ⟨by kernel_rfl, fun wS hSw => ?_⟩) (by assumption) ?_
  · (try dsimp only at hSw); go_simp
  (try simp only [Act.put, List.setIfInBounds_toArray, List.set_cons_zero, List.set_cons_succ])
  refine wpAnyH_take (i := 7) (v := .int .i64 (z1 : Int)) rfl (by kernel_rfl) (by kernel_rfl) (by kernel_rfl) (fun _ _ _ h => h) (Or.inl ⟨by kernel_rfl, fun wS hSw => ?_⟩) (by assumption) ?_
  · (try dsimp only at hSw); go_simp
  (try simp only [Act.put, List.setIfInBounds_toArray, List.set_cons_zero, List.set_cons_succ])
  refine wpAnyH_take (i := 8) (v := .int .i64 (z1 : Int)) rfl (by kernel_rfl) (by kernel_rfl) (by kernel_rfl) (fun _ _ _ h => h) (Or.inl ⟨by kernel_rfl, fun wS hSw => ?_⟩) (by assumption) ?_
  · (try dsimp only at hSw); go_simp
  (try simp only [Act.put, List.setIfInBounds_toArray, List.set_cons_zero, List.set_cons_succ])
  refine wpAnyH_take (i := 9) (v := .bool true) rfl (by kernel_rfl) (by kernel_rfl) (by kernel_rfl) (fun _ _ _ h => h) (Or.inl ⟨by kernel_rfl, fun wS hSw => ?_⟩) (by assumption) ?_
  · (try dsimp only at hSw); go_simp
  (try simp only [Act.put, List.setIfInBounds_toArray, List.set_cons_zero, List.set_cons_succ])
  refine wpAnyH_take (i := 10) (v := .bool true) rfl (by kernel_rfl) (by kernel_rfl) (by kernel_rfl) (fun _ _ _ h => h) (Or.inl ⟨by kernel_rfl, fun wS hSw => ?_⟩) (by assumption) ?_
  · (try dsimp only at hSw); go_simp
  (try simp only [Act.put, List.setIfInBounds_toArray, List.set_cons_zero, List.set_cons_succ])
  refine wpAnyH_take (i := 11) (v := .bool true) rfl (by kernel_rfl) (by kernel_rfl) (by kernel_rfl) (fun _ _ _ h => h) (Or.inl ⟨by kernel_rfl, fun wS hSw => ?_⟩) (by assumption) ?_
  · (try dsimp only at hSw); go_simp
  (try simp only [Act.put, List.setIfInBounds_toArray, List.set_cons_zero, List.set_cons_succ])
  refine wpAnyH_take (i := 12) (v := .agg #[.int .i64 e2.room, .slice ac e2.files.length capc, .int .i64 e2.fuse, .int .i64 e2.fault, .bool e2.down]) rfl (by kernel_rfl) (by kernel_rfl) (by kernel_rfl) (fun _ _ _ h => h) (Or.inl ⟨by kernel_rfl, fun wS hSw => ?_⟩) (by assumption) ?_
  · (try dsimp only at hSw); have c0 := ((unhide Kc).below hSw).cell 0; have c1 := ((unhide Kc).below hSw).cell 1; have c2 := ((unhide Kc).below hSw).cell 2; have c3 := ((unhide Kc).below hSw).cell 3; have c4 := ((unhide Kc).below hSw).cell 4; simp only [List.getElem?_toArray, List.getElem?_cons_succ, List.getElem?_cons_zero] at c0 c1 c2 c3 c4; go_simp
  (try simp only [Act.put, List.setIfInBounds_toArray, List.set_cons_zero, List.set_cons_succ])
  refine wpAnyH_take (i := 13) (v := .agg #[.int .i64 e2.room, .slice ae e2.files.length cape, .int .i64 e2.fuse, .int .i64 e2.fault, .bool e2.down]) rfl (by kernel_rfl) (by kernel_rfl) (by kernel_rfl) (fun _ _ _ h => h) (Or.inl ⟨by kernel_rfl, fun wS hSw => ?_⟩) (by assumption) ?_
  · (try dsimp only at hSw); have c0 := ((unhide Ke).below hSw).cell 0; have c1 := ((unhide Ke).below hSw).cell 1; have c2 := ((unhide Ke).below hSw).cell 2; have c3 := ((unhide Ke).below hSw).cell 3; have c4 := ((unhide Ke).below hSw).cell 4; simp only [List.getElem?_toArray, List.getElem?_cons_succ, List.getElem?_cons_zero] at c0 c1 c2 c3 c4; go_simp
  (try simp only [Act.put, List.setIfInBounds_toArray, List.set_cons_zero, List.set_cons_succ])
  refine wpAnyH_ready (rs := [14]) (by kernel_rfl) (by simp) ?_
  refine AllReadyH.cons rfl (fun K hK => ?_) AllReadyH.nil
  have hB : Below V.heap.size V _ := hHeld
  go_simp
  refine (refSame_me e2 (.slice ac e2.files.length capc) (.slice ae e2.files.length cape) _ ((unhide Rc).below hB) ((unhide Re).below hB)).mono ?_
  rintro e y2 ⟨rfl, bX⟩
  have hy2 : Below V.heap.size V y2 := belows hB bX
  clear bX hB
  go_wp2_with fail
  refine hK.out _ _ ?_ (fun hHeld => ?_)
  · exact hy2
  clear hK K
  (try simp only [Act.put, List.setIfInBounds_toArray, List.set_cons_zero, List.set_cons_succ])
  refine wpAnyH_take (i := 15) (v := .bool true) rfl (by kernel_rfl) (by kernel_rfl) (by kernel_rfl) (fun _ _ _ h => h) (Or.inl ⟨by kernel_rfl, fun wS hSw => ?_⟩) (by assumption) ?_
  · (try dsimp only at hSw); go_simp
  (try simp only [Act.put, List.setIfInBounds_toArray, List.set_cons_zero, List.set_cons_succ])
  refine wpAnyH_take (i := 16) (v := .bool true) rfl (by kernel_rfl) (by kernel_rfl) (by kernel_rfl) (fun _ _ _ h => h) (Or.inl ⟨by kernel_rfl, fun wS hSw => ?_⟩) (by assumption) ?_
  · (try dsimp only at hSw); go_simp
  (try simp only [Act.put, List.setIfInBounds_toArray, List.set_cons_zero, List.set_cons_succ])
  refine wpAnyH_take (i := 17) (v := .int .i64 (z2 : Int)) rfl (by kernel_rfl) (by kernel_rfl) (by kernel_rfl) (fun _ _ _ h => h) (Or.inl ⟨by kernel_rfl, fun wS hSw => ?_⟩) (by assumption) ?_
  · (try dsimp only at hSw); go_simp
  (try simp only [Act.put, List.setIfInBounds_toArray, List.set_cons_zero, List.set_cons_succ])
  refine wpAnyH_take (i := 18) (v := .int .i64 (z2 : Int)) rfl (by kernel_rfl) (by kernel_rfl) (by kernel_rfl) (fun _ _ _ h => h) (Or.inl ⟨by kernel_rfl, fun wS hSw => ?_⟩) (by assumption) ?_
  · (try dsimp only at hSw); go_simp
  (try simp only [Act.put, List.setIfInBounds_toArray, List.set_cons_zero, List.set_cons_succ])
  refine wpAnyH_take (i := 19) (v := .bool true) rfl (by kernel_rfl) (by kernel_rfl) (by kernel_rfl) (fun _ _ _ h => h) (Or.inl ⟨by kernel_rfl, fun wS hSw => ?_⟩) (by assumption) ?_
  · (try dsimp only at hSw); go_simp
  (try simp only [Act.put, List.setIfInBounds_toArray, List.set_cons_zero, List.set_cons_succ])
  refine wpAnyH_take (i := 20) (v := .bool true) rfl (by kernel_rfl) (by kernel_rfl) (by kernel_rfl) (fun _ _ _ h => h) (Or.inl ⟨by kernel_rfl, fun wS hSw => ?_⟩) (by assumption) ?_
  · (try dsimp only at hSw); go_simp
  (try simp only [Act.put, List.setIfInBounds_toArray, List.set_cons_zero, List.set_cons_succ])
  refine wpAnyH_take (i := 21) (v := .bool true) rfl (by kernel_rfl) (by kernel_rfl) (by kernel_rfl) (fun _ _ _ h => h) (Or.inl ⟨by kernel_rfl, fun wS hSw => ?_⟩) (by assumption) ?_
  · (try dsimp only at hSw); go_simp
  (try simp only [Act.put, List.setIfInBounds_toArray, List.set_cons_zero, List.set_cons_succ])
  refine wpAnyH_take (i := 22) (v := .agg #[.int .i64 e3.room, .slice af e3.files.length capf, .int .i64 e3.fuse, .int .i64 e3.fault, .bool e3.down]) rfl (by kernel_rfl) (by kernel_rfl) (by kernel_rfl) (fun _ _ _ h => h) (Or.inl ⟨by kernel_rfl, fun wS hSw => ?_⟩) (by assumption) ?_
  · (try dsimp only at hSw); have c0 := ((unhide Kf).below hSw).cell 0; have c1 := ((unhide Kf).below hSw).cell 1; have c2 := ((unhide Kf).below hSw).cell 2; have c3 := ((unhide Kf).below hSw).cell 3; have c4 := ((unhide Kf).below hSw).cell 4; simp only [List.getElem?_toArray, List.getElem?_cons_succ, List.getElem?_cons_zero] at c0 c1 c2 c3 c4; go_simp
  (try simp only [Act.put, List.setIfInBounds_toArray, List.set_cons_zero, List.set_cons_succ])
  refine wpAnyH_take (i := 23) (v := .agg #[.int .i64 e3.room, .slice ah e3.files.length caph, .int .i64 e3.fuse, .int .i64 e3.fault, .bool e3.down]) rfl (by kernel_rfl) (by kernel_rfl) (by kernel_rfl) (fun _ _ _ h => h) (Or.inl ⟨by kernel_rfl, fun wS hSw => ?_⟩) (by assumption) ?_
  · (try dsimp only at hSw); have c0 := ((unhide Kh).below hSw).cell 0; have c1 := ((unhide Kh).below hSw).cell 1; have c2 := ((unhide Kh).below hSw).cell 2; have c3 := ((unhide Kh).below hSw).cell 3; have c4 := ((unhide Kh).below hSw).cell 4; simp only [List.getElem?_toArray, List.getElem?_cons_succ, List.getElem?_cons_zero] at c0 c1 c2 c3 c4; go_simp
  (try simp only [Act.put, List.setIfInBounds_toArray, List.set_cons_zero, List.set_cons_succ])
  refine wpAnyH_ready (rs := [24]) (by kernel_rfl) (by simp) ?_
  refine AllReadyH.cons rfl (fun K hK => ?_) AllReadyH.nil
  have hB : Below V.heap.size V _ := hHeld
  go_simp
  refine (refSame_me e3 (.slice af e3.files.length capf) (.slice ah e3.files.length caph) _ ((unhide Rf).below hB) ((unhide Rh).below hB)).mono ?_
  rintro e y3 ⟨rfl, bX⟩
  have hy3 : Below V.heap.size V y3 := belows hB bX
  clear bX hB
  go_wp2_with fail
  refine hK.out _ _ ?_ (fun hHeld => ?_)
  · exact hy3
  clear hK K
  (try simp only [Act.put, List.setIfInBounds_toArray, List.set_cons_zero, List.set_cons_succ])
  refine wpAnyH_take (i := 25) (v := .bool true) rfl (by kernel_rfl) (by kernel_rfl) (by kernel_rfl) (fun _ _ _ h => h) (Or.inl ⟨by kernel_rfl, fun wS hSw => ?_⟩) (by assumption) ?_
  · (try dsimp only at hSw); go_simp
  (try simp only [Act.put, List.setIfInBounds_toArray, List.set_cons_zero, List.set_cons_succ])
  refine wpAnyH_take (i := 26) (v := .bool true) rfl (by kernel_rfl) (by kernel_rfl) (by kernel_rfl) (fun _ _ _ h => h) (Or.inl ⟨by kernel_rfl, fun wS hSw => ?_⟩) (by assumption) ?_
  · (try dsimp only at hSw); go_simp
  (try simp only [Act.put, List.setIfInBounds_toArray, List.set_cons_zero, List.set_cons_succ])
  refine wpAnyH_take (i := 27) (v := .int .i64 (z3 : Int)) rfl (by kernel_rfl) (by kernel_rfl) (by kernel_rfl) (fun _ _ _ h => h) (Or.inl ⟨by kernel_rfl, fun wS hSw => ?_⟩) (by assumption) ?_
  · (try dsimp only at hSw); go_simp
  (try simp only [Act.put, List.setIfInBounds_toArray, List.set_cons_zero, List.set_cons_succ])
  refine wpAnyH_take (i := 28) (v := .int .i64 (z3 : Int)) rfl (by kernel_rfl) (by kernel_rfl) (by kernel_rfl) (fun _ _ _ h => h) (Or.inl ⟨by kernel_rfl, fun wS hSw => ?_⟩) (by assumption) ?_
  · (try dsimp only at hSw); go_simp
  (try simp only [Act.put, List.setIfInBounds_toArray, List.set_cons_zero, List.set_cons_succ])
  refine wpAnyH_take (i := 29) (v := .bool true) rfl (by kernel_rfl) (by kernel_rfl) (by kernel_rfl) (fun _ _ _ h => h) (Or.inl ⟨by kernel_rfl, fun wS hSw => ?_⟩) (by assumption) ?_
  · (try dsimp only at hSw); go_simp
  (try simp only [Act.put, List.setIfInBounds_toArray, List.set_cons_zero, List.set_cons_succ])
  refine wpAnyH_take (i := 30) (v := .bool true) rfl (by kernel_rfl) (by kernel_rfl) (by kernel_rfl) (fun _ _ _ h => h) (Or.inl ⟨by kernel_rfl, fun wS hSw => ?_⟩) (by assumption) ?_
  · (try dsimp only at hSw); go_simp
  (try simp only [Act.put, List.setIfInBounds_toArray, List.set_cons_zero, List.set_cons_succ])
  refine wpAnyH_take (i := 31) (v := .bool true) rfl (by kernel_rfl) (by kernel_rfl) (by kernel_rfl) (fun _ _ _ h => h) (Or.inl ⟨by kernel_rfl, fun wS hSw => ?_⟩) (by assumption) ?_
  · (try dsimp only at hSw); go_simp
  (try simp only [Act.put, List.setIfInBounds_toArray, List.set_cons_zero, List.set_cons_succ])
  refine wpAnyH_take (i := 32) (v := .slice al e4.length capl) rfl (by kernel_rfl) (by kernel_rfl) (by kernel_rfl) (fun _ _ _ h => h) (Or.inl ⟨by kernel_rfl, fun wS hSw => ?_⟩) (by assumption) ?_
  · (try dsimp only at hSw); go_simp
  (try simp only [Act.put, List.setIfInBounds_toArray, List.set_cons_zero, List.set_cons_succ])
  refine wpAnyH_take (i := 33) (v := .slice am e4.length capm) rfl (by kernel_rfl) (by kernel_rfl) (by kernel_rfl) (fun _ _ _ h => h) (Or.inl ⟨by kernel_rfl, fun wS hSw => ?_⟩) (by assumption) ?_
  · (try dsimp only at hSw); go_simp
  (try simp only [Act.put, List.setIfInBounds_toArray, List.set_cons_zero, List.set_cons_succ])
  refine wpAnyH_ready (rs := [34]) (by kernel_rfl) (by simp) ?_
  refine AllReadyH.cons rfl (fun K hK => ?_) AllReadyH.nil
  have hB : Below V.heap.size V _ := hHeld
  go_simp
  refine (sameS_self (.slice al e4.length capl) (.slice am e4.length capm) e4 _ ((unhide Rl).below hB) ((unhide Rm).below hB)).mono ?_
  rintro e y4 ⟨rfl, bX⟩
  have hy4 : Below V.heap.size V y4 := belows hB bX
  clear bX hB
  go_wp2_with fail
  refine hK.out _ _ ?_ (fun hHeld => ?_)
  · exact hy4
  clear hK K
  (try simp only [Act.put, List.setIfInBounds_toArray, List.set_cons_zero, List.set_cons_succ])
  refine wpAnyH_take (i := 35) (v := .bool true) rfl (by kernel_rfl) (by kernel_rfl) (by kernel_rfl) (fun _ _ _ h => h) (Or.inl ⟨by kernel_rfl, fun wS hSw => ?_⟩) (by assumption) ?_
  · (try dsimp only at hSw); go_simp
  (try simp only [Act.put, List.setIfInBounds_toArray, List.set_cons_zero, List.set_cons_succ])
  refine wpAnyH_take (i := 36) (v := .bool true) rfl (by kernel_rfl) (by kernel_rfl) (by kernel_rfl) (fun _ _ _ h => h) (Or.inl ⟨by kernel_rfl, fun wS hSw => ?_⟩) (by assumption) ?_
  · (try dsimp only at hSw); go_simp
  (try simp only [Act.put, List.setIfInBounds_toArray, List.set_cons_zero, List.set_cons_succ])
  refine wpAnyH_take (i := 37) (v := .int .i64 (z4 : Int)) rfl (by kernel_rfl) (by kernel_rfl) (by kernel_rfl) (fun _ _ _ h => h) (Or.inl ⟨by kernel_rfl, fun wS hSw => ?_⟩) (by assumption) ?_
  · (try dsimp only at hSw); go_simp
  (try simp only [Act.put, List.setIfInBounds_toArray, List.set_cons_zero, List.set_cons_succ])
  refine wpAnyH_take (i := 38) (v := .int .i64 (z4 : Int)) rfl (by kernel_rfl) (by kernel_rfl) (by kernel_rfl) (fun _ _ _ h => h) (Or.inl ⟨by kernel_rfl, fun wS hSw => ?_⟩) (by assumption) ?_
  · (try dsimp only at hSw); go_simp
  (try simp only [Act.put, List.setIfInBounds_toArray, List.set_cons_zero, List.set_cons_succ])
  refine wpAnyH_take (i := 39) (v := .bool true) rfl (by kernel_rfl) (by kernel_rfl) (by kernel_rfl) (fun _ _ _ h => h) (Or.inl ⟨by kernel_rfl, fun wS hSw => ?_⟩) (by assumption) ?_
  · (try dsimp only at hSw); go_simp
  (try simp only [Act.put, List.setIfInBounds_toArray, List.set_cons_zero, List.set_cons_succ])
  refine wpAnyH_take (i := 40) (v := .bool true) rfl (by kernel_rfl) (by kernel_rfl) (by kernel_rfl) (fun _ _ _ h => h) (Or.inl ⟨by kernel_rfl, fun wS hSw => ?_⟩) (by assumption) ?_
  · (try dsimp only at hSw); go_simp
  (try simp only [Act.put, List.setIfInBounds_toArray, List.set_cons_zero, List.set_cons_succ])
  refine wpAnyH_take (i := 41) (v := .bool true) rfl (by kernel_rfl) (by kernel_rfl) (by kernel_rfl) (fun _ _ _ h => h) (Or.inl ⟨by kernel_rfl, fun wS hSw => ?_⟩) (by assumption) ?_
  · (try dsimp only at hSw); go_simp
  (try simp only [Act.put, List.setIfInBounds_toArray, List.set_cons_zero, List.set_cons_succ])
  refine wpAnyH_take (i := 42) (v := .agg #[.int .i64 e5.room, .slice ax e5.files.length capx, .int .i64 e5.fuse, .int .i64 e5.fault, .bool e5.down]) rfl (by kernel_rfl) (by kernel_rfl) (by kernel_rfl) (fun _ _ _ h => h) (Or.inl ⟨by kernel_rfl, fun wS hSw => ?_⟩) (by assumption) ?_
  · (try dsimp only at hSw); have c0 := ((unhide Kx).below hSw).cell 0; have c1 := ((unhide Kx).below hSw).cell 1; have c2 := ((unhide Kx).below hSw).cell 2; have c3 := ((unhide Kx).below hSw).cell 3; have c4 := ((unhide Kx).below hSw).cell 4; simp only [List.getElem?_toArray, List.getElem?_cons_succ, List.getElem?_cons_zero] at c0 c1 c2 c3 c4; go_simp
  (try simp only [Act.put, List.setIfInBounds_toArray, List.set_cons_zero, List.set_cons_succ])
  refine wpAnyH_take (i := 43) (v := .agg #[.int .i64 e5.room, .slice ay e5.files.length capy, .int .i64 e5.fuse, .int .i64 e5.fault, .bool e5.down]) rfl (by kernel_rfl) (by kernel_rfl) (by kernel_rfl) (fun _ _ _ h => h) (Or.inl ⟨by kernel_rfl, fun wS hSw => ?_⟩) (by assumption) ?_
  · (try dsimp only at hSw); have c0 := ((unhide Ky).below hSw).cell 0; have c1 := ((unhide Ky).below hSw).cell 1; have c2 := ((unhide Ky).below hSw).cell 2; have c3 := ((unhide Ky).below hSw).cell 3; have c4 := ((unhide Ky).below hSw).cell 4; simp only [List.getElem?_toArray, List.getElem?_cons_succ, List.getElem?_cons_zero] at c0 c1 c2 c3 c4; go_simp
  (try simp only [Act.put, List.setIfInBounds_toArray, List.set_cons_zero, List.set_cons_succ])
  refine wpAnyH_ready (rs := [44]) (by kernel_rfl) (by simp) ?_
  refine AllReadyH.cons rfl (fun K hK => ?_) AllReadyH.nil
  have hB : Below V.heap.size V _ := hHeld
  go_simp
  refine (refSame_me e5 (.slice ax e5.files.length capx) (.slice ay e5.files.length capy) _ ((unhide Rx).below hB) ((unhide Ry).below hB)).mono ?_
  rintro e y5 ⟨rfl, bX⟩
  have hy5 : Below V.heap.size V y5 := belows hB bX
  clear bX hB
  go_wp2_with fail
  refine hK.out _ _ ?_ (fun hHeld => ?_)
  · exact hy5
  clear hK K
  (try simp only [Act.put, List.setIfInBounds_toArray, List.set_cons_zero, List.set_cons_succ])
  refine wpAnyH_take (i := 45) (v := .bool true) rfl (by kernel_rfl) (by kernel_rfl) (by kernel_rfl) (fun _ _ _ h => h) (Or.inl ⟨by kernel_rfl, fun wS hSw => ?_⟩) (by assumption) ?_
  · (try dsimp only at hSw); go_simp
  (try simp only [Act.put, List.setIfInBounds_toArray, List.set_cons_zero, List.set_cons_succ])
  refine wpAnyH_take (i := 46) (v := .bool true) rfl (by kernel_rfl) (by kernel_rfl) (by kernel_rfl) (fun _ _ _ h => h) (Or.inl ⟨by kernel_rfl, fun wS hSw => ?_⟩) (by assumption) ?_
  · (try dsimp only at hSw); go_simp
  (try simp only [Act.put, List.setIfInBounds_toArray, List.set_cons_zero, List.set_cons_succ])
  refine wpAnyH_take (i := 47) (v := .int .i64 (z5 : Int)) rfl (by kernel_rfl) (by kernel_rfl) (by kernel_rfl) (fun _ _ _ h => h) (Or.inl ⟨by kernel_rfl, fun wS hSw => ?_⟩) (by assumption) ?_
  · (try dsimp only at hSw); go_simp
  (try simp only [Act.put, List.setIfInBounds_toArray, List.set_cons_zero, List.set_cons_succ])
  refine wpAnyH_take (i := 48) (v := .int .i64 (z5 : Int)) rfl (by kernel_rfl) (by kernel_rfl) (by kernel_rfl) (fun _ _ _ h => h) (Or.inl ⟨by kernel_rfl, fun wS hSw => ?_⟩) (by assumption) ?_
  · (try dsimp only at hSw); go_simp
  (try simp only [Act.put, List.setIfInBounds_toArray, List.set_cons_zero, List.set_cons_succ])
  refine wpAnyH_take (i := 49) (v := .bool true) rfl (by kernel_rfl) (by kernel_rfl) (by kernel_rfl) (fun _ _ _ h => h) (Or.inl ⟨by kernel_rfl, fun wS hSw => ?_⟩) (by assumption) ?_
  · (try dsimp only at hSw); go_simp
  (try simp only [Act.put, List.setIfInBounds_toArray, List.set_cons_zero, List.set_cons_succ])
  refine wpAnyH_take (i := 50) (v := .bool true) rfl (by kernel_rfl) (by kernel_rfl) (by kernel_rfl) (fun _ _ _ h => h) (Or.inl ⟨by kernel_rfl, fun wS hSw => ?_⟩) (by assumption) ?_
  · (try dsimp only at hSw); go_simp
  (try simp only [Act.put, List.setIfInBounds_toArray, List.set_cons_zero, List.set_cons_succ])
  refine wpAnyH_take (i := 51) (v := .bool true) rfl (by kernel_rfl) (by kernel_rfl) (by kernel_rfl) (fun _ _ _ h => h) (Or.inl ⟨by kernel_rfl, fun wS hSw => ?_⟩) (by assumption) ?_
  · (try dsimp only at hSw); go_simp
  (try simp only [Act.put, List.setIfInBounds_toArray, List.set_cons_zero, List.set_cons_succ])
  refine wpAnyH_take (i := 52) (v := .agg #[.int .i64 d.room, .slice ag N capg, .int .i64 d.fuse, .int .i64 d.fault, .bool d.down]) rfl (by kernel_rfl) (by kernel_rfl) (by kernel_rfl) (fun _ _ _ h => h) (Or.inl ⟨by kernel_rfl, fun wS hSw => ?_⟩) (by assumption) ?_
  · (try dsimp only at hSw); have c0 := ((unhide Kg).below hSw).cell 0; have c1 := ((unhide Kg).below hSw).cell 1; have c2 := ((unhide Kg).below hSw).cell 2; have c3 := ((unhide Kg).below hSw).cell 3; have c4 := ((unhide Kg).below hSw).cell 4; simp only [List.getElem?_toArray, List.getElem?_cons_succ, List.getElem?_cons_zero] at c0 c1 c2 c3 c4; go_simp
  (try simp only [Act.put, List.setIfInBounds_toArray, List.set_cons_zero, List.set_cons_succ])
  refine wpAnyH_take (i := 54) (v := .agg #[.int .i64 d.room, .slice a N cap, .int .i64 d.fuse, .int .i64 d.fault, .bool d.down]) rfl (by kernel_rfl) (by kernel_rfl) (by kernel_rfl) (fun _ _ _ h => h) (Or.inl ⟨by kernel_rfl, fun wS hSw => ?_⟩) (by assumption) ?_
  · (try dsimp only at hSw); have c0 := ((unhide Kd).below hSw).cell 0; have c1 := ((unhide Kd).below hSw).cell 1; have c2 := ((unhide Kd).below hSw).cell 2; have c3 := ((unhide Kd).below hSw).cell 3; have c4 := ((unhide Kd).below hSw).cell 4; simp only [List.getElem?_toArray, List.getElem?_cons_succ, List.getElem?_cons_zero] at c0 c1 c2 c3 c4; go_simp
  (try simp only [Act.put, List.setIfInBounds_toArray, List.set_cons_zero, List.set_cons_succ])
  refine wpAnyH_ready (rs := [53]) (by kernel_rfl) (by simp) ?_
  refine AllReadyH.cons rfl (fun K hK => ?_) AllReadyH.nil
  have hB : Below V.heap.size V _ := hHeld
  go_simp
  refine (unhide H6 _ _ ((unhide Rg).below hB)).mono ?_
  rintro e y6 ⟨rfl, bX⟩
  have hy6 : Below V.heap.size V y6 := belows hB bX
  clear bX hB
  go_wp2_with fail
  refine hK.out _ _ ?_ (fun hHeld => ?_)
  · exact hy6
  clear hK K
  (try simp only [Act.put, List.setIfInBounds_toArray, List.set_cons_zero, List.set_cons_succ])
  refine wpAnyH_ready (rs := [55]) (by kernel_rfl) (by simp) ?_
  refine AllReadyH.cons rfl (fun K hK => ?_) AllReadyH.nil
  have hB : Below V.heap.size V _ := hHeld
  go_simp
  refine (unhide G6 _ ((unhide Rd).below hB)).mono ?_
  rintro e y7 ⟨rfl, bX⟩
  have hy7 : Below V.heap.size V y7 := belows hB bX
  clear bX hB
  go_wp2_with fail
  refine hK.out _ _ ?_ (fun hHeld => ?_)
  · exact hy7
  clear hK K
  (try simp only [Act.put, List.setIfInBounds_toArray, List.set_cons_zero, List.set_cons_succ])
  refine wpAnyH_take (i := 56) (v := .bool true) rfl (by kernel_rfl) (by kernel_rfl) (by kernel_rfl) (fun _ _ _ h => h) (Or.inl ⟨by kernel_rfl, fun wS hSw => ?_⟩) (by assumption) ?_
  · (try dsimp only at hSw); go_simp
  (try simp only [Act.put, List.setIfInBounds_toArray, List.set_cons_zero, List.set_cons_succ])
  refine wpAnyH_take (i := 57) (v := .bool true) rfl (by kernel_rfl) (by kernel_rfl) (by kernel_rfl) (fun _ _ _ h => h) (Or.inl ⟨by kernel_rfl, fun wS hSw => ?_⟩) (by assumption) ?_
  · (try dsimp only at hSw); go_simp
  (try simp only [Act.put, List.setIfInBounds_toArray, List.set_cons_zero, List.set_cons_succ])
  refine wpAnyH_take (i := 58) (v := .bool true) rfl (by kernel_rfl) (by kernel_rfl) (by kernel_rfl) (fun _ _ _ h => h) (Or.inl ⟨by kernel_rfl, fun wS hSw => ?_⟩) (by assumption) ?_
  · (try dsimp only at hSw); go_simp
  (try simp only [Act.put, List.setIfInBounds_toArray, List.set_cons_zero, List.set_cons_succ])
  refine wpAnyH_take (i := 59) (v := .agg #[.int .i64 d.room, .slice ag N capg, .int .i64 d.fuse, .int .i64 d.fault, .bool d.down]) rfl (by kernel_rfl) (by kernel_rfl) (by kernel_rfl) (fun _ _ _ h => h) (Or.inl ⟨by kernel_rfl, fun wS hSw => ?_⟩) (by assumption) ?_
  · (try dsimp only at hSw); have c0 := ((unhide Kg).below hSw).cell 0; have c1 := ((unhide Kg).below hSw).cell 1; have c2 := ((unhide Kg).below hSw).cell 2; have c3 := ((unhide Kg).below hSw).cell 3; have c4 := ((unhide Kg).below hSw).cell 4; simp only [List.getElem?_toArray, List.getElem?_cons_succ, List.getElem?_cons_zero] at c0 c1 c2 c3 c4; go_simp
  (try simp only [Act.put, List.setIfInBounds_toArray, List.set_cons_zero, List.set_cons_succ])
  refine wpAnyH_take (i := 60) (v := .agg #[.int .i64 d.room, .slice a N cap, .int .i64 d.fuse, .int .i64 d.fault, .bool d.down]) rfl (by kernel_rfl) (by kernel_rfl) (by kernel_rfl) (fun _ _ _ h => h) (Or.inl ⟨by kernel_rfl, fun wS hSw => ?_⟩) (by assumption) ?_
  · (try dsimp only at hSw); have c0 := ((unhide Kd).below hSw).cell 0; have c1 := ((unhide Kd).below hSw).cell 1; have c2 := ((unhide Kd).below hSw).cell 2; have c3 := ((unhide Kd).below hSw).cell 3; have c4 := ((unhide Kd).below hSw).cell 4; simp only [List.getElem?_toArray, List.getElem?_cons_succ, List.getElem?_cons_zero] at c0 c1 c2 c3 c4; go_simp
  (try simp only [Act.put, List.setIfInBounds_toArray, List.set_cons_zero, List.set_cons_succ])
  refine wpAnyH_ready (rs := [61]) (by kernel_rfl) (by simp) ?_
  refine AllReadyH.cons rfl (fun K hK => ?_) AllReadyH.nil
  have hB : Below V.heap.size V _ := hHeld
  go_simp
  refine (refSame_me d (.slice ag N capg) (.slice a N cap) _ ((unhide Rg).below hB) ((unhide Rd).below hB)).mono ?_
  rintro e y8 ⟨rfl, bX⟩
  have hy8 : Below V.heap.size V y8 := belows hB bX
  clear bX hB
  go_wp2_with fail
  refine hK.out _ _ ?_ (fun hHeld => ?_)
  · exact hy8
  clear hK K
  (try simp only [Act.put, List.setIfInBounds_toArray, List.set_cons_zero, List.set_cons_succ])
  refine wpAnyH_take (i := 62) (v := .bool true) rfl (by kernel_rfl) (by kernel_rfl) (by kernel_rfl) (fun _ _ _ h => h) (Or.inl ⟨by kernel_rfl, fun wS hSw => ?_⟩) (by assumption) ?_
  · (try dsimp only at hSw); go_simp
  (try simp only [Act.put, List.setIfInBounds_toArray, List.set_cons_zero, List.set_cons_succ])
  refine wpAnyH_ready (rs := [63]) (by kernel_rfl) (by simp) ?_
  refine AllReadyH.cons rfl (fun K hK => ?_) AllReadyH.nil
  go_simp
  refine hK.out _ _ ?_ (fun hHeld => ?_)
  · exact hHeld
  clear hK K
  (try simp only [Act.put, List.setIfInBounds_toArray, List.set_cons_zero, List.set_cons_succ])
  refine wpAnyH_done (by kernel_rfl) ?_ _
  have B9 := hide (belows (unhide BX) hHeld)
  clear hHeld
  go_wp2
  go_ret
  exact ⟨rfl, unhide B9⟩
end Go.Proofs.Ytmfkhbofmaonkaa
