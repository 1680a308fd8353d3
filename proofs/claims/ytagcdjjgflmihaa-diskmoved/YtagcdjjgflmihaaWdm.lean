/-
  What missivelaw04.DiskMoved does, over this seat's program: it answers true.
-/
import Derived.Test.YtagcdjjgflmihaaDmv
import Derived.Test.YtagcdjjgflmihaaDlw
set_option linter.unusedVariables false
set_option linter.unusedSimpArgs false
namespace Go.Proofs.Ytagcdjjgflmihaa
open Go.RowKit Go.Proofs.Dsk

set_option maxHeartbeats 4000000 in
set_option maxRecDepth 100000 in
theorem diskMoved_walk (d : Fs) (v : Value) (fr to : ByteArray) (w : World) (hfit : FitAll d) (h : RowF w v d.files) (hfr : fr.size ≤ 281474976710656) (hto : to.size ≤ 281474976710656) :
    Calls Try.prog 7 #[fsV d v, .string fr, .string to] w fun e w' => e = .returned (.bool true) ∧ Below w.heap.size w w' := by
  have hb0 := (Below.refl w.heap.size w).alloc (Nat.le_refl _) (Obj.cells #[.int .i64 d.room, v, .int .i64 d.fuse, .int .i64 d.fault, .bool d.down] 24)
  have k0 := Blk.new w 24 #[.int .i64 d.room, v, .int .i64 d.fuse, .int .i64 d.fault, .bool d.down]
  have HR0 := hide (h.below hb0)
  have HRD := hide (fun (X : World) (hX : RowF X v d.files) => read_any d v fr X hfit hX)
  have HRN := hide (fun (X : World) (hX : RowF X v d.files) => rename_any d v fr to X hfit hX hto)
  have HLV := hide (fun X => lives_any X)
  obtain ⟨a, cap, rfl, h63, _, _⟩ := h
  obtain ⟨N, hN⟩ : ∃ N, d.files.length = N := ⟨_, rfl⟩
  have HN := hide hN
  rw [hN] at k0 HR0 HRD HRN h63 hb0 ⊢
  have K0 := hide k0
  have HB0 := hide hb0
  clear k0 hb0 hN
  simp only [fsV] at HRD HRN ⊢
  go_enter Try.func7, Try.ntmps7
  go_wp2_with fail
  refine (unhide HLV _).mono ?_
  rintro e w1 ⟨rfl, b1⟩
  have k1 := (unhide K0).below b1
  have c0 := k1.cell 0
  have c1 := k1.cell 1
  have c2 := k1.cell 2
  have c3 := k1.cell 3
  have c4 := k1.cell 4
  simp only [List.getElem?_toArray, List.getElem?_cons_succ, List.getElem?_cons_zero] at c0 c1 c2 c3 c4
  have K1 := hide k1
  have R1 := hide ((unhide HR0).below b1)
  have B1 := hide (belows (unhide HB0) b1)
  clear k1 b1 K0 HR0 HB0 HLV
  go_wp2_with fail
  refine (unhide HRD _ (unhide R1)).mono ?_
  rintro e w2 ⟨rfl, b2⟩
  have k2 := (unhide K1).below b2
  clear c0 c1 c2 c3 c4
  have c0 := k2.cell 0
  have c1 := k2.cell 1
  have c2 := k2.cell 2
  have c3 := k2.cell 3
  have c4 := k2.cell 4
  simp only [List.getElem?_toArray, List.getElem?_cons_succ, List.getElem?_cons_zero] at c0 c1 c2 c3 c4
  have K2 := hide k2
  have R2 := hide ((unhide R1).below b2)
  have B2 := hide (belows (unhide B1) b2)
  clear k2 b2 K1 R1 B1
  go_wp2_with fail
  refine (unhide HRN _ (unhide R2)).mono ?_
  rintro e w3 ⟨v3, rfl, r3, f3, b3⟩
  have K3 := hide ((unhide K2).below b3)
  have B3 := hide (belows (unhide B2) b3)
  have HMV := hide (fun h => moved (d := d) (fr := fr) (to := to) h)
  obtain ⟨rd, hrd⟩ : ∃ rd, readR d fr = rd := ⟨_, rfl⟩
  obtain ⟨rn, hrn⟩ : ∃ rn, renameR d fr to = rn := ⟨_, rfl⟩
  rw [hrd, hrn] at HMV
  rw [hrd]
  rw [hrn] at r3 f3 ⊢
  clear hrd hrn HRD HRN b3 K2 R2 B2 c0 c1 c2 c3 c4
  obtain ⟨rs, rc⟩ := rd
  obtain ⟨e3, n3⟩ := rn
  simp only at HMV r3 f3 ⊢
  obtain ⟨a3, cap3, rfl, h363, _, _⟩ := id r3
  by_cases h3 : n3 = 0
  · subst h3
    obtain ⟨m1, m2, m3, m4, m5, m6⟩ := unhide HMV rfl
    subst m1
    obtain ⟨M, hM⟩ : ∃ M, e3.files.length = M := ⟨_, rfl⟩
    rw [hM] at m5 m6 h363 r3 ⊢
    rw [unhide HN] at m5
    have bA := (Below.refl w3.heap.size w3).alloc (Nat.le_refl _) (Obj.cells #[.int .i64 e3.room, .slice a3 M cap3, .int .i64 e3.fuse, .int .i64 e3.fault, .bool e3.down] 24)
    have kA := Blk.new w3 24 #[.int .i64 e3.room, .slice a3 M cap3, .int .i64 e3.fuse, .int .i64 e3.fault, .bool e3.down]
    have HR4 := hide (read_any e3 (.slice a3 M cap3) to _ f3 (r3.below bA))
    rw [m2] at HR4
    have HR5 := hide (fun (X : World) (hX : RowF X (.slice a3 M cap3) e3.files) => read_any e3 (.slice a3 M cap3) fr X f3 hX)
    have HCK := hide (fun (X : World) (hX : RowF X (.slice a3 M cap3) e3.files) => check_any e3 (.slice a3 M cap3) X f3.1 hX)
    rw [m4] at HCK
    obtain ⟨rq, hrq⟩ : ∃ rq, readR e3 fr = rq := ⟨_, rfl⟩
    rw [hrq] at HR5 m3
    obtain ⟨qs, qc⟩ := rq
    simp only [fsV, if_true] at HR4 HR5 HCK m3
    have RA := hide (r3.below bA)
    have KA := hide kA
    have KB := hide ((unhide K3).below bA)
    have BA := hide (belows (unhide B3) bA)
    have M5 := hide m5
    have hlen : (N : Int) - (M : Int) ≤ 1 := by omega
    have heq : (fr.toList == to.toList) = decide (fr = to) := beqS fr to
    have hself : (rs.toList == rs.toList) = true := by simp
    clear bA kA K3 B3 m2 m4 m6 HMV hrq hM r3 f3 m5 h63
    go_wp2_with fail
    refine (unhide HR4).mono ?_
    rintro e w4 ⟨rfl, b4⟩
    have k4 := (unhide KA).below b4
    have c0 := k4.cell 0
    have c1 := k4.cell 1
    have c2 := k4.cell 2
    have c3 := k4.cell 3
    have c4 := k4.cell 4
    simp only [List.getElem?_toArray, List.getElem?_cons_succ, List.getElem?_cons_zero] at c0 c1 c2 c3 c4
    have K4 := hide k4
    have R4 := hide ((unhide RA).below b4)
    have B4 := hide (belows (unhide BA) b4)
    have KB4 := hide ((unhide KB).below b4)
    clear k4 b4 KA RA BA KB HR4
    go_wp2_with fail
    refine (unhide HR5 _ (unhide R4)).mono ?_
    rintro e w5 ⟨rfl, b5⟩
    clear c0 c1 c2 c3 c4
    have k5 := (unhide K4).below b5
    have c0 := k5.cell 0
    have c1 := k5.cell 1
    have c2 := k5.cell 2
    have c3 := k5.cell 3
    have c4 := k5.cell 4
    simp only [List.getElem?_toArray, List.getElem?_cons_succ, List.getElem?_cons_zero] at c0 c1 c2 c3 c4
    have K5 := hide k5
    have R5 := hide ((unhide R4).below b5)
    have B5 := hide (belows (unhide B4) b5)
    have KB5 := hide ((unhide KB4).below b5)
    clear k5 b5 K4 R4 B4 KB4 HR5
    by_cases he : fr = to
    · have hd : (fr.toList == to.toList) = true := by rw [heq, decide_eq_true he]
      clear heq m3 he
      go_wp2_with fail
      refine (unhide HCK _ (unhide R5)).mono ?_
      rintro e w6 ⟨rfl, b6⟩
      have d1 := ((unhide K5).below b6).cell 1
      have g1 := ((unhide KB5).below b6).cell 1
      simp only [List.getElem?_toArray, List.getElem?_cons_succ, List.getElem?_cons_zero] at d1 g1
      have B6 := hide (belows (unhide B5) b6)
      clear b6 c0 c1 c2 c3 c4
      go_wp2
      go_ret
      exact ⟨rfl, unhide B6⟩
    · have hd : (fr.toList == to.toList) = false := by rw [heq, decide_eq_false he]
      have hq : qc = 3 := by
        rcases m3 with h | h
        · exact absurd h he
        · exact h
      subst hq
      clear heq m3 he
      go_wp2_with fail
      refine (unhide HCK _ (unhide R5)).mono ?_
      rintro e w6 ⟨rfl, b6⟩
      have d1 := ((unhide K5).below b6).cell 1
      have g1 := ((unhide KB5).below b6).cell 1
      simp only [List.getElem?_toArray, List.getElem?_cons_succ, List.getElem?_cons_zero] at d1 g1
      have B6 := hide (belows (unhide B5) b6)
      clear b6 c0 c1 c2 c3 c4
      go_wp2
      go_ret
      exact ⟨rfl, unhide B6⟩
  · have hne : ((n3 : Int) == 0) = false := by simpa using h3
    have hnz : ¬ ((n3 : Int) = 0) := by omega
    have BA := hide (belows (unhide B3) ((Below.refl w3.heap.size w3).alloc (Nat.le_refl _) (Obj.cells #[.int .i64 e3.room, .slice a3 e3.files.length cap3, .int .i64 e3.fuse, .int .i64 e3.fault, .bool e3.down] 24)))
    clear HMV r3 f3 K3 B3 h3
    go_wp2
    go_ret
    exact ⟨rfl, unhide BA⟩
end Go.Proofs.Ytagcdjjgflmihaa
