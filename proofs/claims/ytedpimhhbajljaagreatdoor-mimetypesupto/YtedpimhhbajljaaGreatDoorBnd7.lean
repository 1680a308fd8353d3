/-
  What missivelaw11.lives does, over this seat's program: it answers true.
-/
import Derived.Test.YtedpimhhbajljaaGreatDoorBnd3
import Derived.Test.YtedpimhhbajljaaGreatDoorMml
import Derived.Test.YtedpimhhbajljaaGreatDoorBnd1
import Derived.Test.YtedpimhhbajljaaGreatDoorMsf
import Derived.Test.YtedpimhhbajljaaGreatDoorBnd6
import Derived.BigQuiet
import Derived.Test.YtedpimhhbajljaaGreatDoorBnd2
set_option linter.unusedVariables false
set_option linter.unusedSimpArgs false
namespace Go.Proofs.YtedpimhhbajljaaGreatDoor
open Go.RowKit Go.Proofs.Hed Go.Proofs.Rns

def twoF : List Fld := [(⟨#[99, 104, 97, 114, 115, 101, 116]⟩, ⟨#[97, 34, 98]⟩), (⟨#[120]⟩, ⟨#[121]⟩)]
def twoT : ByteArray := ⟨#[84, 101, 120, 116, 47, 80, 108, 97, 105, 110, 32, 59, 32, 99, 104, 97, 114, 115, 101, 116, 61, 34, 97, 92, 34, 98, 34, 59, 32, 120, 32, 61, 32, 121]⟩
theorem two_k : bts (typK twoT.data.toList) = ⟨#[116, 101, 120, 116, 47, 112, 108, 97, 105, 110]⟩ := by kernel_rfl
theorem two_f : (typF twoT.data.toList).map fldP = twoF := by kernel_rfl
theorem two_v : findV ⟨#[67, 104, 97, 114, 115, 101, 116]⟩ twoF = .tuple #[.string ⟨#[97, 34, 98]⟩, .int .i64 0] := by kernel_rfl
theorem two_b : byP twoP2.co twoP2.bo = (⟨#[195, 169]⟩, 0) := by kernel_rfl
theorem two_n : (namedR twoP2.ch.data.toList).2 = 0 ∧ (namedR twoP2.ch.data.toList).1 < 256 := by decide +kernel
theorem two_n0 : (namedR twoP0.ch.data.toList).1 < 256 := by decide +kernel
theorem two_l : letP twoP2.ch twoP2.co twoP2.bo = [233] := by kernel_rfl
theorem two_t : isTx twoP2.ty = true := by kernel_rfl
theorem two_t0 : isTx twoP0.ty = false := by kernel_rfl

/-- Where the constant's three parts lie. -/
structure Two3 (W : World) (g : Nat) : Prop where
  lt : g < W.heap.size
  cell : ∀ j u, (flatG ptC [twoP0, twoP1, twoP2])[j]? = some u → W.cell? ⟨g, j, none⟩ = some u
theorem Two3.below {W W' : World} {g : Nat} (h : Two3 W g) (hb : Below W.heap.size W W') : Two3 W' g :=
  ⟨Nat.lt_of_lt_of_le h.lt hb.size, fun j u hj => (hb.cell (p := ⟨g, j, none⟩) h.lt).trans (h.cell j u hj)⟩
set_option maxRecDepth 10000 in
theorem two_parts (w : World) : Calls Tryz.prog 22 #[.string twoB] w fun e w' => ∃ g cap, e = .returned (.slice (some ⟨g, 0, none⟩) 3 cap) ∧ Two3 w' g ∧ Below w.heap.size w w' := by
  refine (parts_any twoB w (by decide)).mono ?_
  rintro e w1 ⟨v, rfl, ho, hb⟩
  rw [two_is] at ho
  obtain ⟨b, off, cap, hv, hlt, hc⟩ := RowG.at (j := 0) (Fit := fun _ => True) (c := ptC) ptC_len (rowG_of_own ptC_len ho (by decide) (fun _ _ => trivial)) (by decide)
  obtain ⟨a, cap', hv', _, _, h | ⟨b', off', ha, hlt', hcc⟩⟩ := rowG_of_own (Fit := fun _ => True) ptC_len ho (by decide) (fun _ _ => trivial)
  · cases h
  · subst ha
    rcases ho.2 with ⟨hz, h0⟩ | ⟨g, cp, cur, hg, _⟩
    · cases h0
    · have e1 : off' = 0 ∧ b' = g := by
        rw [hg] at hv'
        injection hv' with h1 h2 h3
        injection h1 with h1
        injection h1 with h4 h5
        exact ⟨h5.symm, h4.symm⟩
      obtain ⟨rfl, rfl⟩ := e1
      refine ⟨b', cp, by rw [hg]; rfl, ⟨hlt', fun j u hj => ?_⟩, hb⟩
      have := hcc j u hj
      rwa [Nat.zero_add] at this
theorem two_type (w : World) : Calls Tryz.prog 4 #[.string twoT] w fun e w' => ∃ v, e = .returned (.tuple #[.string ⟨#[116, 101, 120, 116, 47, 112, 108, 97, 105, 110]⟩, v]) ∧ RowF w' v twoF ∧ Below w.heap.size w w' := by
  refine (type_any twoT w (by decide)).mono ?_
  rintro e w1 ⟨v, rfl, ⟨hr, _⟩, hb⟩
  rw [two_f] at hr
  rw [two_k]
  exact ⟨v, rfl, hr, hb⟩
theorem two_param (v : Value) (w : World) (h : RowF w v twoF) : Calls Tryz.prog 6 #[v, .string ⟨#[67, 104, 97, 114, 115, 101, 116]⟩] w fun e w' => e = .returned (.tuple #[.string ⟨#[97, 34, 98]⟩, .int .i64 0]) ∧ Below w.heap.size w w' := by
  refine (param_any v twoF _ w h (by decide)).mono ?_
  rintro e w1 ⟨rfl, hb⟩
  exact ⟨by rw [two_v], hb⟩
theorem two_bytes (w : World) : Calls Tryz.prog 23 #[.agg #[.int .i64 1, .string twoP2.ty, .string twoP2.ch, .string twoP2.co, .string twoP2.bo]] w fun e w' => e = .returned (.tuple #[.string ⟨#[195, 169]⟩, .int .i64 0]) ∧ Below w.heap.size w w' := by
  refine (bytesM_any 1 twoP2.ty twoP2.ch twoP2.co twoP2.bo w (by decide)).mono ?_
  rintro e w1 ⟨rfl, hb⟩
  exact ⟨by rw [two_b], hb⟩
theorem two_let (w : World) (ht : RTabN w) : Calls Tryz.prog 24 #[.agg #[.int .i64 1, .string twoP2.ty, .string twoP2.ch, .string twoP2.co, .string twoP2.bo]] w fun e w' => ∃ v, e = .returned (.tuple #[v, .bool true]) ∧ RowI w' v [233] ∧ Below w.heap.size w w' := by
  refine (lettersM_any 1 twoP2.ty twoP2.ch twoP2.co twoP2.bo w ht (by decide) (by decide) (by rw [two_b]; decide) two_n.2).mono ?_
  rintro e w1 ⟨v, rfl, ho, hb⟩
  rw [two_t, if_pos rfl, two_l] at ho
  refine ⟨v, ?_, own_rowI ho (by decide), hb⟩
  rw [two_t, decide_eq_true two_n.1]
  rfl
theorem two_let0 (w : World) (ht : RTabN w) : Calls Tryz.prog 24 #[.agg #[.int .i64 0, .string twoP0.ty, .string twoP0.ch, .string twoP0.co, .string twoP0.bo]] w fun e w' => e = .returned (.tuple #[.slice none 0 0, .bool false]) ∧ Below w.heap.size w w' := by
  refine (lettersM_any 0 twoP0.ty twoP0.ch twoP0.co twoP0.bo w ht (by decide) (by decide) (by decide +kernel) two_n0).mono ?_
  rintro e w1 ⟨v, rfl, ho, hb⟩
  rw [two_t0] at ho
  rw [if_neg (by decide)] at ho
  subst ho
  exact ⟨by rw [two_t0]; rfl, hb⟩
theorem RTabN.belowM {w w' : World} (h : RTabN w) (hb : Below w.heap.size w w') : RTabN w' := by
  first | exact h.below hb | exact RTabN.below h hb
end Go.Proofs.YtedpimhhbajljaaGreatDoor

/-
  What missivelaw11.lives does, over this seat's program: it answers true.
-/
set_option linter.unusedVariables false
set_option linter.unusedSimpArgs false
namespace Go.Proofs.YtedpimhhbajljaaGreatDoor
open Go.RowKit Go.Proofs.Hed Go.Proofs.Rns

theorem alloc_belowM {w w' : World} (o : Obj) (h : Below (w.alloc o).heap.size (w.alloc o) w') : Below w.heap.size w w' :=
  belows' ((Below.refl _ w).alloc (Nat.le_refl _) o) h
/-- The cells of the constant's parts, one by one. -/
theorem Two3.all {W : World} {g : Nat} (h : Two3 W g) :
    W.cell? ⟨g, 0, none⟩ = some (.int .i64 0) ∧ W.cell? ⟨g, 1, none⟩ = some (.string twoP0.ty) ∧ W.cell? ⟨g, 2, none⟩ = some (.string twoP0.ch) ∧ W.cell? ⟨g, 3, none⟩ = some (.string twoP0.co) ∧ W.cell? ⟨g, 4, none⟩ = some (.string ⟨#[]⟩) ∧
    W.cell? ⟨g, 5, none⟩ = some (.int .i64 1) ∧ W.cell? ⟨g, 6, none⟩ = some (.string ⟨#[116, 101, 120, 116, 47, 112, 108, 97, 105, 110]⟩) ∧ W.cell? ⟨g, 9, none⟩ = some (.string ⟨#[111, 110, 101]⟩) ∧
    W.cell? ⟨g, 10, none⟩ = some (.int .i64 1) ∧ W.cell? ⟨g, 11, none⟩ = some (.string twoP2.ty) ∧ W.cell? ⟨g, 12, none⟩ = some (.string ⟨#[117, 116, 102, 45, 56]⟩) ∧ W.cell? ⟨g, 13, none⟩ = some (.string ⟨#[98, 97, 115, 101, 54, 52]⟩) ∧ W.cell? ⟨g, 14, none⟩ = some (.string twoP2.bo) :=
  ⟨h.cell 0 _ rfl, h.cell 1 _ rfl, h.cell 2 _ rfl, h.cell 3 _ rfl, h.cell 4 _ rfl, h.cell 5 _ rfl, h.cell 6 _ rfl, h.cell 9 _ rfl, h.cell 10 _ rfl, h.cell 11 _ rfl, h.cell 12 _ rfl, h.cell 13 _ rfl, h.cell 14 _ rfl⟩

set_option maxHeartbeats 4000000 in
set_option maxRecDepth 100000 in
theorem livesM_any (w : World) (ht : RTabN w) : Calls Tryz.prog 8 #[] w fun e w' => e = .returned (.bool true) ∧ Below w.heap.size w w' := by
  have H0 := hide ht
  clear ht
  go_enter Tryz.func8, Tryz.ntmps8
  go_wp2_with fail
  refine (two_parts _).mono ?_
  rintro e w1 ⟨g, cap, rfl, t3, b1⟩
  have T1 := hide t3
  have H1 := hide ((unhide H0).belowM b1)
  have hg1 := t3.lt
  clear t3
  go_wp2_with fail
  refine (two_type _).mono ?_
  rintro e w2 ⟨v, rfl, hv, b2⟩
  have HV := hide hv
  have T2 := hide ((unhide T1).below b2)
  have H2 := hide ((unhide H1).belowM b2)
  clear hv T1
  go_wp2_with fail
  refine (two_param v _ (unhide HV)).mono ?_
  rintro e w3 ⟨rfl, b3⟩
  have HV3 := hide ((unhide HV).below b3)
  have T3 := hide ((unhide T2).below b3)
  have H3 := hide ((unhide H2).belowM b3)
  have hg3 := (unhide T3).lt
  obtain ⟨c0, c1, c2, c3, c4, c5, c6, c9, c10, c11, c12, c13, c14⟩ := (unhide T3).all
  clear HV T2
  go_wp2_with fail
  refine (two_bytes _).mono ?_
  rintro e w4 ⟨rfl, b4⟩
  have HV4 := hide ((unhide HV3).below b4)
  have T4 := hide ((unhide T3).below b4)
  have H4 := hide ((unhide H3).belowM b4)
  have hg4 := (unhide T4).lt
  clear c0 c1 c2 c3 c4 c5 c6 c9 c10 c11 c12 c13 c14 T3 HV3
  obtain ⟨c0, c1, c2, c3, c4, c5, c6, c9, c10, c11, c12, c13, c14⟩ := (unhide T4).all
  go_wp2_with fail
  refine (two_let _ (unhide H4)).mono ?_
  rintro e w5 ⟨u, rfl, hu, b5⟩
  have HU := hide hu
  have HV5 := hide ((unhide HV4).below b5)
  have T5 := hide ((unhide T4).below b5)
  have H5 := hide ((unhide H4).belowM b5)
  have hg5 := (unhide T5).lt
  clear c0 c1 c2 c3 c4 c5 c6 c9 c10 c11 c12 c13 c14 T4 HV4 hu
  obtain ⟨c0, c1, c2, c3, c4, c5, c6, c9, c10, c11, c12, c13, c14⟩ := (unhide T5).all
  go_wp2_with fail
  refine (two_let0 _ (unhide H5)).mono ?_
  rintro e w6 ⟨rfl, b6⟩
  have HU6 := hide ((unhide HU).below b6)
  have HV6 := hide ((unhide HV5).below b6)
  have T6 := hide ((unhide T5).below b6)
  have hg6 := (unhide T6).lt
  clear c0 c1 c2 c3 c4 c5 c6 c9 c10 c11 c12 c13 c14 T5 HV5 HU
  obtain ⟨c0, c1, c2, c3, c4, c5, c6, c9, c10, c11, c12, c13, c14⟩ := (unhide T6).all
  have B1 := hide b1
  have B2 := hide b2
  have B3 := hide b3
  have B4 := hide b4
  have B5 := hide b5
  have B6 := hide b6
  clear b1 b2 b3 b4 b5 b6
  go_upto_region 9 with (fail)
  apply wp_region_lit
  change wpList _ (List.toArray (_ :: _ :: _ :: _ :: _ :: _ :: _ :: _ :: _ :: _ :: _ :: _ :: _ :: _ :: _ :: _ :: _ :: _ :: _ :: _ :: _ :: _ :: _ :: _ :: _ :: _ :: _ :: _ :: _ :: _ :: _ :: _ :: _ :: _ :: _ :: _ :: _ :: _ :: _ :: _ :: _ :: _ :: _ :: _ :: _ :: _ :: _ :: _ :: _ :: _ :: _ :: _ :: _ :: _ :: _ :: _ :: _ :: _ :: _ :: _ :: _ :: _ :: _ :: _ :: _ :: _ :: _ :: _ :: _ :: _ :: _ :: _ :: _ :: _ :: _ :: _ :: _ :: _ :: _ :: _ :: _ :: _ :: _ :: _ :: _ :: _ :: _ :: [])) _ (_ :: _ :: _ :: _ :: _ :: _ :: _ :: _ :: _ :: _ :: _ :: _ :: _ :: _ :: _ :: _ :: _ :: _ :: _ :: _ :: _ :: _ :: _ :: _ :: _ :: _ :: _ :: _ :: _ :: _ :: _ :: _ :: _ :: _ :: _ :: _ :: _ :: _ :: _ :: _ :: _ :: _ :: _ :: _ :: _ :: _ :: _ :: _ :: _ :: _ :: _ :: _ :: _ :: _ :: _ :: _ :: _ :: _ :: _ :: _ :: _ :: _ :: _ :: _ :: _ :: _ :: _ :: _ :: _ :: _ :: _ :: _ :: _ :: _ :: _ :: _ :: _ :: _ :: _ :: _ :: _ :: _ :: _ :: _ :: _ :: _ :: _ :: []) _ _
  go_wp2_with fail
  refine (sameF_any v _ twoF twoF _ ((unhide HV6).below ((Below.refl _ w6).alloc (Nat.le_refl _) _)) (rowF_lit w6 twoF _ rfl (by decide) (by intro f hf; unfold twoF at hf; simp only [List.mem_cons, List.not_mem_nil, or_false] at hf; rcases hf with rfl | rfl <;> exact ⟨by decide, by decide⟩))).mono ?_
  rintro e w7 ⟨rfl, b7'⟩
  have b7 := alloc_belowM _ b7'
  have HU7 := hide ((unhide HU6).below b7)
  clear b7' HU6 HV6
  rw [decide_eq_true (rfl : twoF = twoF)]
  go_wp2_with fail
  refine (same_any u _ [233] [233] _ ((unhide HU7).below ((Below.refl _ w7).alloc (Nat.le_refl _) _)) (lit_rowI w7 [233] _ rfl (by decide) 1 rfl) (by decide)).mono ?_
  rintro e w8 ⟨rfl, b8'⟩
  have b8 := alloc_belowM _ b8'
  clear b8'
  rw [show decide (([233] : List Int) = [233]) = true from rfl]
  go_wp2
  go_ret
  exact ⟨rfl, belows' (belows' (belows' (belows' (belows' (belows' (belows' (unhide B1) (unhide B2)) (unhide B3)) (unhide B4)) (unhide B5)) (unhide B6)) b7) b8⟩
end Go.Proofs.YtedpimhhbajljaaGreatDoor

/-
  missivelaw11.MimeTypes walked, over this seat's program.
-/
set_option linter.unusedVariables false
set_option linter.unusedSimpArgs false
namespace Go.Proofs.YtedpimhhbajljaaGreatDoor
open Go.RowKit Go.Proofs.Hed Go.Proofs.Rns

set_option maxHeartbeats 4000000 in
set_option maxRecDepth 100000 in
theorem mimeTypes_walk (s nm : ByteArray) (vl : Value) (L : List Fld) (w : World) (ht : RTabN w) (hr : RowF w vl L) (hs : s.size ≤ 4194304) (hn : nm.size ≤ 4194304) :
    Calls Tryz.prog 3 #[.string s, .string nm, vl] w fun e w' => e = .returned (.bool true) ∧ Below w.heap.size w w' := by
  have HLV := hide (fun W (h : RTabN W) => livesM_any W h)
  have HT0 := hide ht
  have HR0 := hide hr
  obtain ⟨a0, c0, hv0, _⟩ := hr
  have HA := hide (fun W => type_any s W hs)
  have HB := hide (fun W => refType_any s W hs)
  generalize bts (typK s.data.toList) = K at HA HB
  generalize (typF s.data.toList).map fldP = F at HA HB
  have HP := hide (fun W (h : RowF W vl L) => param_any vl L nm W h (by omega))
  have HF := hide (fun W (h : RowF W vl L) => refFind_any vl L nm W h (by omega))
  rw [findV_eq] at HP HF
  generalize (findR nm L).1 = x at HP HF
  generalize (findR nm L).2 = kk at HP HF
  subst hv0
  have hq1 : (K.toList == K.toList) = true := by simp
  have hq2 : (x.toList == x.toList) = true := by simp
  have hq3 : ((kk : Int) == (kk : Int)) = true := by simp
  clear ht
  go_enter Tryz.func3, Tryz.ntmps3
  go_wp2_with fail
  refine (unhide HA _).mono ?_
  rintro e w1 ⟨v1, rfl, ⟨hr1, _⟩, b1⟩
  have HR1 := hide ((unhide HR0).below b1)
  have HT1 := hide ((unhide HT0).belowM b1)
  have R1 := hide hr1
  have B1 := hide b1
  clear HA hr1 b1 HR0 HT0
  go_wp2_with fail
  refine (unhide HB _).mono ?_
  rintro e w2 ⟨v2, rfl, hr2, b2⟩
  have HR2 := hide ((unhide HR1).below b2)
  have HT2 := hide ((unhide HT1).belowM b2)
  have R12 := hide ((unhide R1).below b2)
  have R2 := hide hr2
  have B2 := hide (belows' (unhide B1) b2)
  clear HB hr2 b2 HR1 HT1 R1 B1
  go_wp2_with fail
  refine (unhide HP _ (unhide HR2)).mono ?_
  rintro e w3 ⟨rfl, b3⟩
  have HR3 := hide ((unhide HR2).below b3)
  have HT3 := hide ((unhide HT2).belowM b3)
  have R13 := hide ((unhide R12).below b3)
  have R23 := hide ((unhide R2).below b3)
  have B3 := hide (belows' (unhide B2) b3)
  clear HP b3 HR2 HT2 R12 R2 B2
  go_wp2_with fail
  refine (unhide HF _ (unhide HR3)).mono ?_
  rintro e w4 ⟨rfl, b4⟩
  have HT4 := hide ((unhide HT3).belowM b4)
  have R14 := hide ((unhide R13).below b4)
  have R24 := hide ((unhide R23).below b4)
  have B4 := hide (belows' (unhide B3) b4)
  clear HF b4 HR3 HT3 R13 R23 B3
  go_wp2_with fail
  refine (unhide HLV _ (unhide HT4)).mono ?_
  rintro e w5 ⟨rfl, b5⟩
  have R15 := hide ((unhide R14).below b5)
  have R25 := hide ((unhide R24).below b5)
  have B5 := hide (belows' (unhide B4) b5)
  clear HLV b5 HT4 R14 R24 B4
  go_wp2_with fail
  refine (sameF_any _ _ _ _ _ (unhide R15) (unhide R25)).mono ?_
  rintro e w6 ⟨rfl, b6⟩
  have B6 := hide (belows' (unhide B5) b6)
  clear b6 R15 R25 B5
  rw [decide_eq_true (rfl : F = F)]
  go_wp2
  go_ret
  exact ⟨rfl, unhide B6⟩
end Go.Proofs.YtedpimhhbajljaaGreatDoor
