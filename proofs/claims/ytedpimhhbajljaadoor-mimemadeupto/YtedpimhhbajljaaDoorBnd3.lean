/-
  What missivelaw11.lives does, over this seat's program: it answers true.
-/
import Derived.Test.YtedpimhhbajljaaDoorMmo
import Derived.Test.YtedpimhhbajljaaDoorMml
import Derived.Test.YtedpimhhbajljaaDoorBnd1
import Derived.Test.YtedpimhhbajljaaDoorBnd2
import Derived.BigQuiet
set_option linter.unusedVariables false
set_option linter.unusedSimpArgs false
namespace Go.Proofs.YtedpimhhbajljaaDoor
open Go.RowKit Go.Proofs.Hed Go.Proofs.Rns

def twoF : List Fld := [(⟨#[99, 104, 97, 114, 115, 101, 116]⟩, ⟨#[97, 34, 98]⟩), (⟨#[120]⟩, ⟨#[121]⟩)]
def twoT : ByteArray := ⟨#[84, 101, 120, 116, 47, 80, 108, 97, 105, 110, 32, 59, 32, 99, 104, 97, 114, 115, 101, 116, 61, 34, 97, 92, 34, 98, 34, 59, 32, 120, 32, 61, 32, 121]⟩
theorem two_k : bts (typK twoT.data.toList) = ⟨#[116, 101, 120, 116, 47, 112, 108, 97, 105, 110]⟩ := by kernel_rfl
theorem two_f : (typF twoT.data.toList).map fldP = twoF := by kernel_rfl
theorem two_v : findV ⟨#[67, 104, 97, 114, 115, 101, 116]⟩ twoF = .tuple #[.string ⟨#[97, 34, 98]⟩, .int .i64 0] := by kernel_rfl
theorem two_b : byP twoP2.co twoP2.bo = (⟨#[195, 169]⟩, 0) := by kernel_rfl
theorem two_n : (namedR twoP2.ch.data.toList).2 = 0 ∧ (namedR twoP2.ch.data.toList).1 < 256 := by decide +kernel
theorem two_n0 : (namedR twoP0.ch.data.toList).1 < 256 := by decide +kernel
theorem two_l : letP twoP2.ch twoP2.co twoP2.bo = [233] := by kernel_rfl
theorem two_t : isTx twoP2.ty = true := by kernel_rfl
theorem two_t0 : isTx twoP0.ty = false := by kernel_rfl

/-- Where the constant's three parts lie. -/
structure Two3 (W : World) (g : Nat) : Prop where
  lt : g < W.heap.size
  cell : ∀ j u, (flatG ptC [twoP0, twoP1, twoP2])[j]? = some u → W.cell? ⟨g, j, none⟩ = some u
theorem Two3.below {W W' : World} {g : Nat} (h : Two3 W g) (hb : Below W.heap.size W W') : Two3 W' g :=
  ⟨Nat.lt_of_lt_of_le h.lt hb.size, fun j u hj => (hb.cell (p := ⟨g, j, none⟩) h.lt).trans (h.cell j u hj)⟩
set_option maxRecDepth 10000 in
theorem two_parts (w : World) : Calls Tryd.prog 8 #[.string twoB] w fun e w' => ∃ g cap, e = .returned (.slice (some ⟨g, 0, none⟩) 3 cap) ∧ Two3 w' g ∧ Below w.heap.size w w' := by
  refine (parts_any twoB w (by decide)).mono ?_
  rintro e w1 ⟨v, rfl, ho, hb⟩
  rw [two_is] at ho
  obtain ⟨b, off, cap, hv, hlt, hc⟩ := RowG.at (j := 0) (Fit := fun _ => True) (c := ptC) ptC_len (rowG_of_own ptC_len ho (by decide) (fun _ _ => trivial)) (by decide)
  obtain ⟨a, cap', hv', _, _, h | ⟨b', off', ha, hlt', hcc⟩⟩ := rowG_of_own (Fit := fun _ => True) ptC_len ho (by decide) (fun _ _ => trivial)
  · cases h
  · subst ha
    rcases ho.2 with ⟨hz, h0⟩ | ⟨g, cp, cur, hg, _⟩
    · cases h0
    · have e1 : off' = 0 ∧ b' = g := by
        rw [hg] at hv'
        injection hv' with h1 h2 h3
        injection h1 with h1
        injection h1 with h4 h5
        exact ⟨h5.symm, h4.symm⟩
      obtain ⟨rfl, rfl⟩ := e1
      refine ⟨b', cp, by rw [hg]; rfl, ⟨hlt', fun j u hj => ?_⟩, hb⟩
      have := hcc j u hj
      rwa [Nat.zero_add] at this
theorem two_type (w : World) : Calls Tryd.prog 11 #[.string twoT] w fun e w' => ∃ v, e = .returned (.tuple #[.string ⟨#[116, 101, 120, 116, 47, 112, 108, 97, 105, 110]⟩, v]) ∧ RowF w' v twoF ∧ Below w.heap.size w w' := by
  refine (type_any twoT w (by decide)).mono ?_
  rintro e w1 ⟨v, rfl, ⟨hr, _⟩, hb⟩
  rw [two_f] at hr
  rw [two_k]
  exact ⟨v, rfl, hr, hb⟩
theorem two_param (v : Value) (w : World) (h : RowF w v twoF) : Calls Tryd.prog 12 #[v, .string ⟨#[67, 104, 97, 114, 115, 101, 116]⟩] w fun e w' => e = .returned (.tuple #[.string ⟨#[97, 34, 98]⟩, .int .i64 0]) ∧ Below w.heap.size w w' := by
  refine (param_any v twoF _ w h (by decide)).mono ?_
  rintro e w1 ⟨rfl, hb⟩
  exact ⟨by rw [two_v], hb⟩
theorem two_bytes (w : World) : Calls Tryd.prog 13 #[.agg #[.int .i64 1, .string twoP2.ty, .string twoP2.ch, .string twoP2.co, .string twoP2.bo]] w fun e w' => e = .returned (.tuple #[.string ⟨#[195, 169]⟩, .int .i64 0]) ∧ Below w.heap.size w w' := by
  refine (bytesM_any 1 twoP2.ty twoP2.ch twoP2.co twoP2.bo w (by decide)).mono ?_
  rintro e w1 ⟨rfl, hb⟩
  exact ⟨by rw [two_b], hb⟩
theorem two_let (w : World) (ht : RTabN w) : Calls Tryd.prog 14 #[.agg #[.int .i64 1, .string twoP2.ty, .string twoP2.ch, .string twoP2.co, .string twoP2.bo]] w fun e w' => ∃ v, e = .returned (.tuple #[v, .bool true]) ∧ RowI w' v [233] ∧ Below w.heap.size w w' := by
  refine (lettersM_any 1 twoP2.ty twoP2.ch twoP2.co twoP2.bo w ht (by decide) (by decide) (by rw [two_b]; decide) two_n.2).mono ?_
  rintro e w1 ⟨v, rfl, ho, hb⟩
  rw [two_t, if_pos rfl, two_l] at ho
  refine ⟨v, ?_, own_rowI ho (by decide), hb⟩
  rw [two_t, decide_eq_true two_n.1]
  rfl
theorem two_let0 (w : World) (ht : RTabN w) : Calls Tryd.prog 14 #[.agg #[.int .i64 0, .string twoP0.ty, .string twoP0.ch, .string twoP0.co, .string twoP0.bo]] w fun e w' => e = .returned (.tuple #[.slice none 0 0, .bool false]) ∧ Below w.heap.size w w' := by
  refine (lettersM_any 0 twoP0.ty twoP0.ch twoP0.co twoP0.bo w ht (by decide) (by decide) (by decide +kernel) two_n0).mono ?_
  rintro e w1 ⟨v, rfl, ho, hb⟩
  rw [two_t0] at ho
  rw [if_neg (by decide)] at ho
  subst ho
  exact ⟨by rw [two_t0]; rfl, hb⟩
theorem RTabN.belowM {w w' : World} (h : RTabN w) (hb : Below w.heap.size w w') : RTabN w' := by
  first | exact h.below hb | exact RTabN.below h hb
end Go.Proofs.YtedpimhhbajljaaDoor

/-
  What missivelaw11.lives does, over this seat's program: it answers true.
-/
set_option linter.unusedVariables false
set_option linter.unusedSimpArgs false
namespace Go.Proofs.YtedpimhhbajljaaDoor
open Go.RowKit Go.Proofs.Hed Go.Proofs.Rns

theorem alloc_belowM {w w' : World} (o : Obj) (h : Below (w.alloc o).heap.size (w.alloc o) w') : Below w.heap.size w w' :=
  belows' ((Below.refl _ w).alloc (Nat.le_refl _) o) h
/-- The cells of the constant's parts, one by one. -/
theorem Two3.all {W : World} {g : Nat} (h : Two3 W g) :
    W.cell? ⟨g, 0, none⟩ = some (.int .i64 0) ∧ W.cell? ⟨g, 1, none⟩ = some (.string twoP0.ty) ∧ W.cell? ⟨g, 2, none⟩ = some (.string twoP0.ch) ∧ W.cell? ⟨g, 3, none⟩ = some (.string twoP0.co) ∧ W.cell? ⟨g, 4, none⟩ = some (.string ⟨#[]⟩) ∧
    W.cell? ⟨g, 5, none⟩ = some (.int .i64 1) ∧ W.cell? ⟨g, 6, none⟩ = some (.string ⟨#[116, 101, 120, 116, 47, 112, 108, 97, 105, 110]⟩) ∧ W.cell? ⟨g, 9, none⟩ = some (.string ⟨#[111, 110, 101]⟩) ∧
    W.cell? ⟨g, 10, none⟩ = some (.int .i64 1) ∧ W.cell? ⟨g, 11, none⟩ = some (.string twoP2.ty) ∧ W.cell? ⟨g, 12, none⟩ = some (.string ⟨#[117, 116, 102, 45, 56]⟩) ∧ W.cell? ⟨g, 13, none⟩ = some (.string ⟨#[98, 97, 115, 101, 54, 52]⟩) ∧ W.cell? ⟨g, 14, none⟩ = some (.string twoP2.bo) :=
  ⟨h.cell 0 _ rfl, h.cell 1 _ rfl, h.cell 2 _ rfl, h.cell 3 _ rfl, h.cell 4 _ rfl, h.cell 5 _ rfl, h.cell 6 _ rfl, h.cell 9 _ rfl, h.cell 10 _ rfl, h.cell 11 _ rfl, h.cell 12 _ rfl, h.cell 13 _ rfl, h.cell 14 _ rfl⟩

set_option maxHeartbeats 4000000 in
set_option maxRecDepth 100000 in
theorem livesM_any (w : World) (ht : RTabN w) : Calls Tryd.prog 7 #[] w fun e w' => e = .returned (.bool true) ∧ Below w.heap.size w w' := by
  have H0 := hide ht
  clear ht
  go_enter Tryd.func7, Tryd.ntmps7
  go_wp2_with fail
  refine (two_parts _).mono ?_
  rintro e w1 ⟨g, cap, rfl, t3, b1⟩
  have T1 := hide t3
  have H1 := hide ((unhide H0).belowM b1)
  have hg1 := t3.lt
  clear t3
  go_wp2_with fail
  refine (two_type _).mono ?_
  rintro e w2 ⟨v, rfl, hv, b2⟩
  have HV := hide hv
  have T2 := hide ((unhide T1).below b2)
  have H2 := hide ((unhide H1).belowM b2)
  clear hv T1
  go_wp2_with fail
  refine (two_param v _ (unhide HV)).mono ?_
  rintro e w3 ⟨rfl, b3⟩
  have HV3 := hide ((unhide HV).below b3)
  have T3 := hide ((unhide T2).below b3)
  have H3 := hide ((unhide H2).belowM b3)
  have hg3 := (unhide T3).lt
  obtain ⟨c0, c1, c2, c3, c4, c5, c6, c9, c10, c11, c12, c13, c14⟩ := (unhide T3).all
  clear HV T2
  go_wp2_with fail
  refine (two_bytes _).mono ?_
  rintro e w4 ⟨rfl, b4⟩
  have HV4 := hide ((unhide HV3).below b4)
  have T4 := hide ((unhide T3).below b4)
  have H4 := hide ((unhide H3).belowM b4)
  have hg4 := (unhide T4).lt
  clear c0 c1 c2 c3 c4 c5 c6 c9 c10 c11 c12 c13 c14 T3 HV3
  obtain ⟨c0, c1, c2, c3, c4, c5, c6, c9, c10, c11, c12, c13, c14⟩ := (unhide T4).all
  go_wp2_with fail
  refine (two_let _ (unhide H4)).mono ?_
  rintro e w5 ⟨u, rfl, hu, b5⟩
  have HU := hide hu
  have HV5 := hide ((unhide HV4).below b5)
  have T5 := hide ((unhide T4).below b5)
  have H5 := hide ((unhide H4).belowM b5)
  have hg5 := (unhide T5).lt
  clear c0 c1 c2 c3 c4 c5 c6 c9 c10 c11 c12 c13 c14 T4 HV4 hu
  obtain ⟨c0, c1, c2, c3, c4, c5, c6, c9, c10, c11, c12, c13, c14⟩ := (unhide T5).all
  go_wp2_with fail
  refine (two_let0 _ (unhide H5)).mono ?_
  rintro e w6 ⟨rfl, b6⟩
  have HU6 := hide ((unhide HU).below b6)
  have HV6 := hide ((unhide HV5).below b6)
  have T6 := hide ((unhide T5).below b6)
  have hg6 := (unhide T6).lt
  clear c0 c1 c2 c3 c4 c5 c6 c9 c10 c11 c12 c13 c14 T5 HV5 HU
  obtain ⟨c0, c1, c2, c3, c4, c5, c6, c9, c10, c11, c12, c13, c14⟩ := (unhide T6).all
  have B1 := hide b1
  have B2 := hide b2
  have B3 := hide b3
  have B4 := hide b4
  have B5 := hide b5
  have B6 := hide b6
  clear b1 b2 b3 b4 b5 b6
  go_upto_region 9 with (fail)
  apply wp_region_lit
  change wpList _ (List.toArray (_ :: _ :: _ :: _ :: _ :: _ :: _ :: _ :: _ :: _ :: _ :: _ :: _ :: _ :: _ :: _ :: _ :: _ :: _ :: _ :: _ :: _ :: _ :: _ :: _ :: _ :: _ :: _ :: _ :: _ :: _ :: _ :: _ :: _ :: _ :: _ :: _ :: _ :: _ :: _ :: _ :: _ :: _ :: _ :: _ :: _ :: _ :: _ :: _ :: _ :: _ :: _ :: _ :: _ :: _ :: _ :: _ :: _ :: _ :: _ :: _ :: _ :: _ :: _ :: _ :: _ :: _ :: _ :: _ :: _ :: _ :: _ :: _ :: _ :: _ :: _ :: _ :: _ :: _ :: _ :: _ :: _ :: _ :: _ :: _ :: _ :: _ :: [])) _ (_ :: _ :: _ :: _ :: _ :: _ :: _ :: _ :: _ :: _ :: _ :: _ :: _ :: _ :: _ :: _ :: _ :: _ :: _ :: _ :: _ :: _ :: _ :: _ :: _ :: _ :: _ :: _ :: _ :: _ :: _ :: _ :: _ :: _ :: _ :: _ :: _ :: _ :: _ :: _ :: _ :: _ :: _ :: _ :: _ :: _ :: _ :: _ :: _ :: _ :: _ :: _ :: _ :: _ :: _ :: _ :: _ :: _ :: _ :: _ :: _ :: _ :: _ :: _ :: _ :: _ :: _ :: _ :: _ :: _ :: _ :: _ :: _ :: _ :: _ :: _ :: _ :: _ :: _ :: _ :: _ :: _ :: _ :: _ :: _ :: _ :: _ :: []) _ _
  go_wp2_with fail
  refine (sameF_any v _ twoF twoF _ ((unhide HV6).below ((Below.refl _ w6).alloc (Nat.le_refl _) _)) (rowF_lit w6 twoF _ rfl (by decide) (by intro f hf; unfold twoF at hf; simp only [List.mem_cons, List.not_mem_nil, or_false] at hf; rcases hf with rfl | rfl <;> exact ⟨by decide, by decide⟩))).mono ?_
  rintro e w7 ⟨rfl, b7'⟩
  have b7 := alloc_belowM _ b7'
  have HU7 := hide ((unhide HU6).below b7)
  clear b7' HU6 HV6
  rw [decide_eq_true (rfl : twoF = twoF)]
  go_wp2_with fail
  refine (same_any u _ [233] [233] _ ((unhide HU7).below ((Below.refl _ w7).alloc (Nat.le_refl _) _)) (lit_rowI w7 [233] _ rfl (by decide) 1 rfl) (by decide)).mono ?_
  rintro e w8 ⟨rfl, b8'⟩
  have b8 := alloc_belowM _ b8'
  clear b8'
  rw [show decide (([233] : List Int) = [233]) = true from rfl]
  go_wp2
  go_ret
  exact ⟨rfl, belows' (belows' (belows' (belows' (belows' (belows' (belows' (unhide B1) (unhide B2)) (unhide B3)) (unhide B4)) (unhide B5)) (unhide B6)) b7) b8⟩
end Go.Proofs.YtedpimhhbajljaaDoor

/-
  The parts that mime tells, as they lie in memory; missivelaw11.MimePlain and MimeLevels walked, over this seat's program.
-/
set_option linter.unusedVariables false
set_option linter.unusedSimpArgs false
namespace Go.Proofs.YtedpimhhbajljaaDoor
open Go.RowKit Go.Proofs.Hed Go.Proofs.Rns

/-- Where parts lie, one behind the other. -/
structure PtsAt (W : World) (g : Nat) (L : List PT) : Prop where
  lt : g < W.heap.size
  cell : ∀ j u, (flatG ptC L)[j]? = some u → W.cell? ⟨g, j, none⟩ = some u
theorem PtsAt.below {W W' : World} {g : Nat} {L : List PT} (h : PtsAt W g L) (hb : Below W.heap.size W W') : PtsAt W' g L :=
  ⟨Nat.lt_of_lt_of_le h.lt hb.size, fun j u hj => (hb.cell (p := ⟨g, j, none⟩) h.lt).trans (h.cell j u hj)⟩
theorem PtsAt.at {W : World} {g : Nat} {L : List PT} (h : PtsAt W g L) (i : Nat) (hi : i < L.length) :
    W.cell? ⟨g, i * 5, none⟩ = some (.int .i64 L[i].lv) ∧ W.cell? ⟨g, i * 5 + 1, none⟩ = some (.string L[i].ty) ∧ W.cell? ⟨g, i * 5 + 2, none⟩ = some (.string L[i].ch) ∧ W.cell? ⟨g, i * 5 + 3, none⟩ = some (.string L[i].co) ∧ W.cell? ⟨g, i * 5 + 4, none⟩ = some (.string L[i].bo) :=
  ⟨h.cell (i * 5 + 0) _ (by rw [flatG_get (c := ptC) (k := 5) ptC_len L i hi 0 (by omega)]; rfl), h.cell (i * 5 + 1) _ (by rw [flatG_get (c := ptC) (k := 5) ptC_len L i hi 1 (by omega)]; rfl), h.cell (i * 5 + 2) _ (by rw [flatG_get (c := ptC) (k := 5) ptC_len L i hi 2 (by omega)]; rfl),
    h.cell (i * 5 + 3) _ (by rw [flatG_get (c := ptC) (k := 5) ptC_len L i hi 3 (by omega)]; rfl), h.cell (i * 5 + 4) _ (by rw [flatG_get (c := ptC) (k := 5) ptC_len L i hi 4 (by omega)]; rfl)⟩
theorem parts_row (s : ByteArray) (w : World) (hs : s.size ≤ 4194304) : Calls Tryd.prog 8 #[.string s] w fun e w' => ∃ g cap, e = .returned (.slice (some ⟨g, 0, none⟩) (ptsL s).length cap) ∧ PtsAt w' g (ptsL s) ∧ w.heap.size ≤ g ∧ Below w.heap.size w w' := by
  have hl := ptsL_len s
  have hp := ptsL_pos s
  refine (parts_any s w hs).mono ?_
  rintro e w1 ⟨v, rfl, ho, hb⟩
  generalize ptsL s = L at ho hl hp ⊢
  obtain ⟨a, cap', hv', _, _, h | ⟨b', off', ha, hlt', hcc⟩⟩ := rowG_of_own (Fit := fun _ => True) ptC_len ho (by omega) (fun _ _ => trivial)
  · subst h; simp at hp
  · subst ha
    rcases ho.2 with ⟨hz, h0⟩ | ⟨g, cp, cur, hg, hBg, _⟩
    · omega
    · have e1 : off' = 0 ∧ b' = g := by
        rw [hg] at hv'
        injection hv' with h1 h2 h3
        injection h1 with h1
        injection h1 with h4 h5
        exact ⟨h5.symm, h4.symm⟩
      obtain ⟨rfl, rfl⟩ := e1
      refine ⟨b', cp, by rw [hg], ⟨hlt', fun j u hj => ?_⟩, hBg, hb⟩
      have := hcc j u hj
      rwa [Nat.zero_add] at this

/-! ## MimePlain -/
theorem findR_two (nm : ByteArray) : ∀ l : List Fld, (∃ x, findR nm l = (x, 0)) ∨ findR nm l = ({ data := #[] }, 3)
  | [] => Or.inr rfl
  | f :: r => by
    unfold findR
    split
    · exact Or.inl ⟨_, rfl⟩
    · exact findR_two nm r
set_option maxHeartbeats 4000000 in
set_option maxRecDepth 100000 in
theorem mimePlain_walk (s : ByteArray) (w : World) (ht : RTabN w) (hs : s.size ≤ 4194304) :
    Calls Tryd.prog 6 #[.string s] w fun e w' => e = .returned (.bool true) ∧ Below w.heap.size w w' := by
  have HT := hide (livesM_any w ht)
  have HP := hide (fun W => parse_own s W (by omega))
  have HR := hide (fun W => parts_row s W hs)
  have hat := parseL_le s.data.toList
  rw [sizeL] at hat
  have HY : rdY s = s.extract (parseL s.data.toList).2 s.size := rfl
  have HFI := hide (fun F => flds_is (F := F) (l := s.data.toList))
  have HF := hide (fun W v (hX : RowF W v (fldsL s.data.toList)) => find_any v (fldsL s.data.toList) ⟨#[99, 111, 110, 116, 101, 110, 116, 45, 116, 121, 112, 101]⟩ W hX (by decide))
  rw [findV_eq] at HF
  have HSL := fun W => slice_from s ((parseL s.data.toList).2 : Int) (parseL s.data.toList).2 rfl hat W
  rw [← HY] at HSL
  have HO := plain_one s
  generalize (parseL s.data.toList).2 = at_ at HP hat HY HSL
  clear ht
  go_enter Tryd.func6, Tryd.ntmps6
  go_wp2_with fail
  refine (unhide HT).mono ?_
  rintro e w1 ⟨rfl, b1⟩
  have B1 := hide b1
  clear HT b1
  go_wp2_with fail
  refine (unhide HP _).mono ?_
  rintro e w2 ⟨v, F, rfl, ⟨hf, _⟩, hfl, b2⟩
  have hF := unhide HFI F hfl
  subst hF
  have HV := hide hf
  have B2 := hide (belows' (unhide B1) b2)
  clear hf b2 hfl HP HFI B1
  rcases findR_two ⟨#[99, 111, 110, 116, 101, 110, 116, 45, 116, 121, 112, 101]⟩ (fldsL s.data.toList) with ⟨x, hx⟩ | hx
  · rw [hx] at HF
    clear HO HSL HY HR hx hat
    go_wp2_with fail
    refine (unhide HF _ _ (unhide HV)).mono ?_
    rintro e w3 ⟨rfl, b3⟩
    have B3 := hide (belows' (unhide B2) b3)
    clear b3 HF B2
    go_wp2
    go_ret
    exact ⟨rfl, unhide B3⟩
  · rw [hx] at HF
    obtain ⟨co, hL⟩ := HO (by rw [hx]; decide)
    rw [hL] at HR
    clear hL hx HY
    generalize rdY s = Y at HR HSL
    go_wp2_with fail
    refine (unhide HF _ _ (unhide HV)).mono ?_
    rintro e w3 ⟨rfl, b3⟩
    have B3 := hide (belows' (unhide B2) b3)
    clear b3 HF B2 HV
    go_wp2_with fail
    refine (unhide HR _).mono ?_
    rintro e w4 ⟨g, cap, rfl, hp, _, b4⟩
    have B4 := hide (belows' (unhide B3) b4)
    have hg := hp.lt
    obtain ⟨c0, c1, c2, c3, c4⟩ := hp.at 0 (by simp)
    simp only [Nat.zero_mul, Nat.zero_add, List.getElem_cons_zero] at c0 c1 c2 c3 c4
    have hq : (Y.toList == Y.toList) = true := by simp
    clear hp b4 HR B3
    go_wp2
    go_quiet (fail)
    go_wp2
    go_ret
    exact ⟨rfl, below_drewN (unhide B4) _⟩
end Go.Proofs.YtedpimhhbajljaaDoor

/-
  missivelaw11.MimeLevels walked, over this seat's program.
-/
set_option linter.unusedVariables false
set_option linter.unusedSimpArgs false
namespace Go.Proofs.YtedpimhhbajljaaDoor
open Go.RowKit Go.Proofs.Hed Go.Proofs.Rns

theorem below_drewP {w : World} {g : Nat} {L : List PT} (h : PtsAt w g L) (q : Nat) : PtsAt (w.drewN q) g L :=
  h.below (below_drewN (Below.refl _ w) q)
set_option maxHeartbeats 4000000 in
set_option maxRecDepth 100000 in
theorem mimeLevels_walk (s : ByteArray) (w : World) (ht : RTabN w) (hs : s.size ≤ 4194304) :
    Calls Tryd.prog 3 #[.string s] w fun e w' => e = .returned (.bool true) ∧ Below w.heap.size w w' := by
  have HT := hide (livesM_any w ht)
  obtain ⟨L, hn1, hn0, hZ, hM, hC, hR⟩ : ∃ L : List PT, L.length ≤ 256 ∧ 1 ≤ L.length ∧ (∀ h : 0 < L.length, L[0].lv = 0) ∧ (∀ i (h : i + 1 < L.length), 1 ≤ (L[i + 1]).lv ∧ (L[i + 1]).lv ≤ 8) ∧ (∀ i (h : i + 1 < L.length), PtNext (L[i]'(by omega)) (L[i + 1])) ∧
      ∀ W : World, Calls Tryd.prog 8 #[.string s] W fun e w' => ∃ g cap, e = .returned (.slice (some ⟨g, 0, none⟩) L.length cap) ∧ PtsAt w' g L ∧ W.heap.size ≤ g ∧ Below W.heap.size W w' :=
    ⟨ptsL s, ptsL_len s, ptsL_pos s, fun h => ptsL_zero s h, fun i h => ptsL_more s i h, fun i h => ptsL_chain s i h, fun W => parts_row s W hs⟩
  have HR := hide hR
  have HZ := hide hZ
  have HM := hide hM
  have HC := hide hC
  clear ht hR hZ hM hC
  obtain ⟨n, hn⟩ : ∃ n, L.length = n := ⟨_, rfl⟩
  have HN := hide hn
  rw [hn] at HR hn1 hn0
  clear hn
  have d0 : decide (n < 1) = false := decide_eq_false (by omega)
  have d1 : decide ((n : Int) < 1) = false := decide_eq_false (by omega)
  have d2 : decide ((n : Int) > 256) = false := decide_eq_false (by omega)
  have hn2 : (0 : Int) < (n : Int) := by omega
  go_enter Tryd.func3, Tryd.ntmps3
  go_wp2_with fail
  refine (unhide HT).mono ?_
  rintro e w1 ⟨rfl, b1⟩
  have B1 := hide b1
  clear HT b1
  go_wp2_with fail
  refine (unhide HR _).mono ?_
  rintro e w2 ⟨g, cap, rfl, hp, _, b2⟩
  have HP := hide hp
  have hg2 := hp.lt
  have B2 := hide (belows' (unhide B1) b2)
  have c0 : w2.cell? ⟨g, 0, none⟩ = some (.int .i64 0) := by
    have h := (hp.at 0 (by rw [unhide HN]; omega)).1
    rw [unhide HZ] at h
    simpa using h
  clear hp b2 HR B1
  go_wp2
  go_loopw [4, 5, 6, 28] (fun _ _ _ z wr => ∃ k : Nat, z = .int .i64 k ∧ k ≤ n ∧ Hid (PtsAt wr g L) ∧ Hid (Below w.heap.size w wr)) (fun _ _ _ z _ => n - (intOf z).toNat)
  case atStart => exact ⟨0, rfl, Nat.zero_le _, HP, B2⟩
  case round =>
    obtain ⟨k, rfl, hk, HPr, HB⟩ := hrel
    by_cases hlt : k < n
    · have hlt1 : (k : Int) < (n : Int) := by omega
      obtain ⟨a0, a1, a2, a3, a4, x0, x1, x2, x3, x4, HX⟩ : ∃ a0 a1 a2 a3 a4, wr.cell? ⟨g, k * 5, none⟩ = some (.int .i64 a0) ∧ wr.cell? ⟨g, k * 5 + 1, none⟩ = some (.string a1) ∧ wr.cell? ⟨g, k * 5 + 2, none⟩ = some (.string a2) ∧ wr.cell? ⟨g, k * 5 + 3, none⟩ = some (.string a3) ∧ wr.cell? ⟨g, k * 5 + 4, none⟩ = some (.string a4) ∧
          Hid (∀ (hp : 1 ≤ k), ∃ p : PT, L[k - 1]? = some p ∧ (a0 ≤ p.lv ∨ (a0 = p.lv + 1 ∧ p.bo = ⟨#[]⟩)) ∧ 1 ≤ a0 ∧ a0 ≤ 8) := by
        have hkl : k < L.length := by rw [unhide HN]; omega
        have h := (unhide HPr).at k hkl
        refine ⟨_, _, _, _, _, h.1, h.2.1, h.2.2.1, h.2.2.2.1, h.2.2.2.2, hide (fun hp => ?_)⟩
        have h1 := unhide HC (k - 1) (by omega)
        have h2 := unhide HM (k - 1) (by omega)
        have he : k - 1 + 1 = k := by omega
        simp only [he] at h1 h2
        exact ⟨L[k - 1]'(by omega), List.getElem?_eq_getElem _, h1, h2⟩
      have hgr := (unhide HPr).lt
      have BA := hide (((Below.refl wr.heap.size wr).alloc (Nat.le_refl _) (.cells #[.int .i64 a0, .string a1, .string a2, .string a3, .string a4] 26)))
      have HP2 := hide ((unhide HPr).below (unhide BA))
      have HB2 := hide (belows' (unhide HB) (unhide BA))
      by_cases hz : k = 0
      · subst hz
        clear HX HPr
        go_wp2
        exact ⟨⟨1, rfl, by omega, HP2, HB2⟩, by simp [intOf]; omega⟩
      · have hz1 : ((k : Int) == 0) = false := by simp; omega
        have hk1 : 1 ≤ k := by omega
        have hk2 : (1 : Int) ≤ (k : Int) := by omega
        obtain ⟨p, hpk, hnx, g1, g2⟩ := unhide HX hk1
        obtain ⟨hkl, hpe⟩ := List.getElem?_eq_some_iff.1 hpk
        have hy := (unhide HPr).at (k - 1) hkl
        rw [hpe] at hy
        obtain ⟨y0, _, _, _, y4⟩ := hy
        clear HX HPr hpe hpk hkl hz
        have e1 : decide (a0 < 1) = false := decide_eq_false (by omega)
        have e2 : decide (a0 > 8) = false := decide_eq_false (by omega)
        generalize hp4 : p.bo = pb at y4 hnx
        generalize hp0 : p.lv = pl at y0 hnx
        clear hp4 hp0
        rcases hnx with hnx | ⟨hnx, hbo⟩
        · have e3 : decide (a0 > pl) = false := decide_eq_false (by omega)
          clear hnx g1 g2
          go_wp2
          go_quiet (fail)
          go_wp2
          go_quiet (fail)
          go_wp2
          exact ⟨⟨k + 1, by go_num, by omega, hide (below_drewP (unhide HP2) _), hide (below_drewN (unhide HB2) _)⟩, by simp [intOf]; omega⟩
        · subst hbo
          have e3 : decide (a0 > pl) = true := decide_eq_true (by omega)
          have e4 : a0 - pl = 1 := by omega
          clear hnx g1 g2
          go_wp2
          go_quiet (fail)
          go_wp2
          go_quiet (fail)
          go_wp2
          exact ⟨⟨k + 1, by go_num, by omega, hide (below_drewP (unhide HP2) _), hide (below_drewN (unhide HB2) _)⟩, by simp [intOf]; omega⟩
    · have hlt1 : ¬ (k : Int) < (n : Int) := by omega
      go_wp2
      go_ret
      exact ⟨rfl, unhide HB⟩
end Go.Proofs.YtedpimhhbajljaaDoor

/-
  missivelaw11.MimeWithin walked, over this seat's program.
-/
set_option linter.unusedVariables false
set_option linter.unusedSimpArgs false
namespace Go.Proofs.YtedpimhhbajljaaDoor
open Go.RowKit Go.Proofs.Hed Go.Proofs.Rns

theorem ptS_take (L : List PT) (k : Nat) (h : k < L.length) : ptS (L.take (k + 1)) = ptS (L.take k) + L[k].bo.size := by
  unfold ptS
  rw [List.take_succ_eq_append_getElem h, List.map_append, List.sum_append]
  simp
theorem ptS_le (L : List PT) (k : Nat) : ptS (L.take k) ≤ ptS L := by
  unfold ptS
  conv => rhs; rw [← List.take_append_drop k L, List.map_append, List.sum_append]
  omega
set_option maxHeartbeats 8000000 in
set_option maxRecDepth 100000 in
theorem mimeWithin_walk (s : ByteArray) (w : World) (ht : RTabN w) (hs : s.size ≤ 4194304) :
    Calls Tryd.prog 4 #[.string s] w fun e w' => e = .returned (.bool true) ∧ Below w.heap.size w w' := by
  have HT := hide (livesM_any w ht)
  obtain ⟨L, hn1, hS, hQ, hR⟩ : ∃ L : List PT, L.length ≤ 256 ∧ ptS L ≤ s.size ∧ (∀ p ∈ L, PieceOf s p.bo) ∧
      ∀ W : World, Calls Tryd.prog 8 #[.string s] W fun e w' => ∃ g cap, e = .returned (.slice (some ⟨g, 0, none⟩) L.length cap) ∧ PtsAt w' g L ∧ W.heap.size ≤ g ∧ Below W.heap.size W w' :=
    ⟨ptsL s, ptsL_len s, ptsL_sum s, ptsL_piece s, fun W => parts_row s W hs⟩
  have HR := hide hR
  have HS := hide hS
  have HQ := hide hQ
  clear ht hR hS hQ
  obtain ⟨n, hn⟩ : ∃ n, L.length = n := ⟨_, rfl⟩
  have HN := hide hn
  rw [hn] at HR hn1
  clear hn
  go_enter Tryd.func4, Tryd.ntmps4
  go_wp2_with fail
  refine (unhide HT).mono ?_
  rintro e w1 ⟨rfl, b1⟩
  have B1 := hide b1
  clear HT b1
  go_wp2_with fail
  refine (unhide HR _).mono ?_
  rintro e w2 ⟨g, cap, rfl, hp, _, b2⟩
  have HP := hide hp
  have hg2 := hp.lt
  have B2 := hide (belows' (unhide B1) b2)
  clear hp b2 HR B1
  go_wp2
  go_loopw [3, 5, 6, 7, 13] (fun sm _ _ _ z wr => ∃ k q : Nat, z = .int .i64 k ∧ sm = .int .i64 q ∧ k ≤ n ∧ q ≤ s.size ∧ Hid (q = ptS (L.take k)) ∧ Hid (PtsAt wr g L) ∧ Hid (Below w.heap.size w wr)) (fun _ _ _ _ z _ => n - (intOf z).toNat)
  case atStart => exact ⟨0, 0, rfl, rfl, Nat.zero_le _, Nat.zero_le _, hide (by simp [ptS]), HP, B2⟩
  case round =>
    obtain ⟨k, q, rfl, rfl, hk, hq, HE, HPr, HB⟩ := hrel
    by_cases hlt : k < n
    · have hlt1 : (k : Int) < (n : Int) := by omega
      obtain ⟨a0, a1, a2, a3, a4, x0, x1, x2, x3, x4, hz, hz2, HX⟩ : ∃ a0 a1 a2 a3 a4, wr.cell? ⟨g, k * 5, none⟩ = some (.int .i64 a0) ∧ wr.cell? ⟨g, k * 5 + 1, none⟩ = some (.string a1) ∧ wr.cell? ⟨g, k * 5 + 2, none⟩ = some (.string a2) ∧ wr.cell? ⟨g, k * 5 + 3, none⟩ = some (.string a3) ∧ wr.cell? ⟨g, k * 5 + 4, none⟩ = some (.string a4) ∧
          a4.size ≤ s.size ∧ q + a4.size ≤ s.size ∧ Hid (PieceOf s a4 ∧ q + a4.size = ptS (L.take (k + 1))) := by
        have hkl : k < L.length := by rw [unhide HN]; omega
        have h := (unhide HPr).at k hkl
        have h1 := unhide HQ L[k] (List.getElem_mem _)
        have h2 := ptS_take L k hkl
        have h3 := ptS_le L (k + 1)
        have h4 := unhide HS
        have h5 := unhide HE
        refine ⟨_, _, _, _, _, h.1, h.2.1, h.2.2.1, h.2.2.2.1, h.2.2.2.2, ?_, ?_, hide ⟨h1, ?_⟩⟩
        · obtain ⟨i, hi, _⟩ := h1; omega
        · omega
        · omega
      have hgr := (unhide HPr).lt
      have BA := hide (((Below.refl wr.heap.size wr).alloc (Nat.le_refl _) (.cells #[.int .i64 a0, .string a1, .string a2, .string a3, .string a4] 26)))
      have HP2 := hide ((unhide HPr).below (unhide BA))
      have HB2 := hide (belows' (unhide HB) (unhide BA))
      have hz3 : (a4.size : Int) ≤ (s.size : Int) := by omega
      have c4 : (wr.alloc (.cells #[.int .i64 a0, .string a1, .string a2, .string a3, .string a4] 26)).cell? ⟨wr.heap.size, 4, none⟩ = some (.string a4) := by
        rw [World.cell?_alloc_at _ _ _ _ (by simp)]
        rfl
      have hB2 : wr.heap.size < (wr.alloc (.cells #[.int .i64 a0, .string a1, .string a2, .string a3, .string a4] 26)).heap.size := by simp
      clear HPr BA HE
      go_wp2
      generalize wr.alloc (.cells #[.int .i64 a0, .string a1, .string a2, .string a3, .string a4] 26) = W2 at c4 hB2 HP2 HB2 ⊢
      generalize wr.heap.size = B5 at c4 hB2 ⊢
      go_loopw [6, 7] (fun is j wq => ∃ (i : Nat) (b : Bool), j = .int .i64 i ∧ is = .bool b ∧ i ≤ s.size - a4.size + 1 ∧ Hid (b = false → ∀ x, x < i → s.extract x (x + a4.size) ≠ a4) ∧ Hid (Below W2.heap.size W2 wq)) (fun _ j _ => s.size + 1 - (intOf j).toNat)
      case atStart => exact ⟨0, false, rfl, rfl, by omega, hide (fun _ x hx => by omega), hide (Below.refl _ _)⟩
      case round =>
        obtain ⟨i, b, rfl, rfl, hi, HI, HBq⟩ := hrel
        have d4 : wr.cell? ⟨B5, 4, none⟩ = some (.string a4) := ((unhide HBq).cell (p := ⟨B5, 4, none⟩) hB2).trans c4
        clear c4
        by_cases hle : i + a4.size ≤ s.size
        · have e1 : decide ((i : Int) ≤ (s.size : Int) - (a4.size : Int)) = true := decide_eq_true (by omega)
          have e1' : (i : Int) ≤ (s.size : Int) - (a4.size : Int) := by omega
          cases b with
          | true =>
            have HPq := hide ((unhide HP2).below (unhide HBq))
            have HB3 := hide (belows' (unhide HB2) (unhide HBq))
            obtain ⟨_, hsum⟩ := unhide HX
            have HE2 := hide hsum
            clear HX hsum HI HB2 HP2
            go_wp2
            exact ⟨⟨k + 1, q + a4.size, by go_num, by go_num, by omega, by omega, HE2, HPq, HB3⟩, by simp [intOf]; omega⟩
          | false =>
            have HI2 : Hid (∀ bb : Bool, decide (s.extract i (i + a4.size) = a4) = bb → bb = false → ∀ x, x < i + 1 → s.extract x (x + a4.size) ≠ a4) := hide (fun bb hb hbf x hx => by
              by_cases hxi : x = i
              · subst hxi; subst hb; exact of_decide_eq_false hbf
              · exact unhide HI rfl x (by omega))
            have HBB : ((s.extract i (i + a4.size)).toList == a4.toList) = decide (s.extract i (i + a4.size) = a4) := beqS _ _
            have HI3 := hide (unhide HI2 _ rfl)
            clear HI HI2
            generalize decide (s.extract i (i + a4.size) = a4) = bb at HI3 HBB
            have hw1 : IntKind.i64.wrap ((i : Int) + (a4.size : Int)) = (i : Int) + (a4.size : Int) := by rw [IntKind.wrap_i64]; omega
            have hsk := fun W => slice_km s i a4.size hle W
            have hi2 : (i : Int) + (a4.size : Int) ≤ (s.size : Int) := by omega
            go_wp2
            go_quiet (fail)
            go_wp2
            exact ⟨⟨i + 1, bb, by go_num, rfl, by omega, HI3, hide (below_drewN (unhide HBq) _)⟩, by simp [intOf]; omega⟩
        · have e1 : decide ((i : Int) ≤ (s.size : Int) - (a4.size : Int)) = false := decide_eq_false (by omega)
          have e1' : ¬ (i : Int) ≤ (s.size : Int) - (a4.size : Int) := by omega
          cases b with
          | true =>
            have HPq := hide ((unhide HP2).below (unhide HBq))
            have HB3 := hide (belows' (unhide HB2) (unhide HBq))
            obtain ⟨_, hsum⟩ := unhide HX
            have HE2 := hide hsum
            clear HX hsum HI HB2 HP2
            go_wp2
            exact ⟨⟨k + 1, q + a4.size, by go_num, by go_num, by omega, by omega, HE2, HPq, HB3⟩, by simp [intOf]; omega⟩
          | false =>
            exfalso
            obtain ⟨⟨x, hx1, hx2⟩, _⟩ := unhide HX
            exact unhide HI rfl x (by omega) hx2
    · have hlt1 : ¬ (k : Int) < (n : Int) := by omega
      have hle : decide ((q : Int) ≤ (s.size : Int)) = true := decide_eq_true (by omega)
      go_wp2
      go_ret
      exact ⟨rfl, unhide HB⟩
end Go.Proofs.YtedpimhhbajljaaDoor
