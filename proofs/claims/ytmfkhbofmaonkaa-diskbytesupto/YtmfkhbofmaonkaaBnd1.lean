/-
  What disk.Read, List and Make do, over this seat's program.
-/
import Derived.Test.YtmfkhbofmaonkaaWof
import Derived.Test.YtmfkhbofmaonkaaDst
import Derived.Test.YtmfkhbofmaonkaaDcw
import Derived.Test.YtmfkhbofmaonkaaDrn
import Derived.Test.YtmfkhbofmaonkaaDqa
import Derived.Laws.StructEq
import Derived.Deep.QuietTactic
import Derived.BigQuiet
import Derived.Test.YtmfkhbofmaonkaaDqs
import Derived.Test.YtmfkhbofmaonkaaDqj
import Derived.Test.YtmfkhbofmaonkaaDqm
import Derived.Test.YtmfkhbofmaonkaaDqn
import Derived.Test.YtmfkhbofmaonkaaDof
set_option linter.unusedVariables false
namespace Go.Proofs.Ytmfkhbofmaonkaa
open Go.RowKit Go.Proofs.Dsk

set_option maxHeartbeats 2000000 in
set_option maxRecDepth 100000 in
theorem read_any (d : Fs) (v : Value) (n : ByteArray) (w : World) (hfit : FitAll d) (h : RowF w v d.files) :
    Calls Try.prog 27 #[fsV d v, .string n] w fun e w' => e = .returned (.tuple #[.string (readR d n).1, .int .i64 (readR d n).2]) ∧ Below w.heap.size w w' := by
  have hb := (Below.refl w.heap.size w).alloc (Nat.le_refl _) (Obj.cells #[.int .i64 d.room, v, .int .i64 d.fuse, .int .i64 d.fault, .bool d.down] 24)
  have hrd := ready_any d v _ hfit.1 (h.below hb)
  have z0 := Blk.new w 24 #[.int .i64 d.room, v, .int .i64 d.fuse, .int .i64 d.fault, .bool d.down]
  have HROW := hide (h.below hb)
  have HB := hide hb
  cases hr : right d with
  | false =>
    have hr2 : ready d = 2 := by unfold ready; rw [if_pos hr]
    have hw : readR d n = (ByteArray.empty, 2) := by unfold readR; rw [if_pos hr]
    rw [hr2] at hrd
    rw [hw]
    obtain ⟨a, cap, rfl, _, _, _⟩ := h
    simp only [fsV] at hrd ⊢
    have HRD := hide hrd
    clear hrd hb z0 hr hr2 hw
    go_enter Try.func27, Try.ntmps27
    go_wp2_with fail
    refine (unhide HRD).mono ?_
    rintro e w1 ⟨rfl, b1⟩
    have B1 := hide (below_alloc' b1)
    clear b1
    go_wp2
    go_ret2
    exact ⟨rfl, unhide B1⟩
  | true =>
    obtain ⟨hp1, hp2, hp3, hp4⟩ := right_parts hr
    have hn10 := hp1.2.2.1
    by_cases hdn : d.down = true
    · have hr2 : ready d = 9 := by unfold ready; rw [if_neg (by simp [hr]), if_pos hdn]
      have hw : readR d n = (ByteArray.empty, 9) := by unfold readR; rw [if_neg (by simp [hr]), if_pos hdn]
      rw [hr2] at hrd
      rw [hw]
      obtain ⟨a, cap, rfl, _, _, _⟩ := h
      simp only [fsV] at hrd ⊢
      have HRD := hide hrd
      clear hrd hb z0 hr hr2 hw hdn hp1 hp2 hp3 hp4
      go_enter Try.func27, Try.ntmps27
      go_wp2_with fail
      refine (unhide HRD).mono ?_
      rintro e w1 ⟨rfl, b1⟩
      have B1 := hide (below_alloc' b1)
      clear b1
      go_wp2
      go_ret2
      exact ⟨rfl, unhide B1⟩
    · have hr2 : ready d = 0 := by unfold ready; rw [if_neg (by simp [hr]), if_neg hdn]
      have hw : readR d n = if has d.files n = true then ((d.files[lb d.files n]!).data, 0) else (ByteArray.empty, 3) := by unfold readR; rw [if_neg (by simp [hr]), if_neg hdn]
      rw [hr2] at hrd
      rw [hw]
      have HF := hide (fun (X : World) (hX : RowF X v d.files) => find_any d v n X hp4 hn10 hX)
      have hsm := small_of_right hr
      cases hh : has d.files n with
      | false =>
        rw [hh] at HF
        obtain ⟨a, cap, rfl, _, _, _⟩ := h
        simp only [fsV, Bool.false_eq_true, if_false] at hrd HF ⊢
        have HRD := hide hrd
        have Z := hide z0
        clear hrd hb z0 hr hr2 hw hdn hp1 hp2 hp3 hp4 hh hsm
        generalize lb d.files n = at_ at *
        go_enter Try.func27, Try.ntmps27
        go_wp2_with fail
        refine (unhide HRD).mono ?_
        rintro e w1 ⟨rfl, b1⟩
        have k := (unhide Z).below b1
        have c0 := k.cell 0
        have c1 := k.cell 1
        have c2 := k.cell 2
        have c3 := k.cell 3
        have c4 := k.cell 4
        simp only [List.getElem?_toArray, List.getElem?_cons_succ, List.getElem?_cons_zero] at c0 c1 c2 c3 c4
        have B1 := hide (below_alloc' b1)
        have R1 := hide ((unhide HROW).below b1)
        clear b1 k
        go_wp2_with fail
        refine (unhide HF _ (unhide R1)).mono ?_
        rintro e w2 ⟨rfl, b2⟩
        have B2 := hide (belows (unhide B1) b2)
        clear b2
        go_wp2
        go_ret2
        exact ⟨rfl, unhide B2⟩
      | true =>
        obtain ⟨hl, hnm⟩ := has_lb hp4 hh
        have e1 : d.files[lb d.files n]! = d.files[lb d.files n] := getElem!_pos d.files (lb d.files n) hl
        rw [hh] at HF
        obtain ⟨a, cap, rfl, _, _, hc⟩ := h
        rcases hc with h0 | ⟨b, off, rfl, hbl, hcl⟩
        · rw [h0] at hl; simp at hl
        · obtain ⟨_, x1, _⟩ := row_cells hcl hl
          have hcn := fun w => clone_any d.files[lb d.files n].data w (hsm _ (List.getElem_mem hl)).2
          rw [e1]
          simp only [fsV, if_true] at hrd HF ⊢
          have HRD := hide hrd
          have Z := hide z0
          have hli : ((lb d.files n : Nat) : Int) < (d.files.length : Int) := by omega
          clear hrd hb z0 hr hr2 hw hdn hp1 hp2 hp3 hp4 hh hsm e1 hnm hcl
          generalize d.files[lb d.files n].data = dt at *
          generalize lb d.files n = at_ at *
          go_enter Try.func27, Try.ntmps27
          go_wp2_with fail
          refine (unhide HRD).mono ?_
          rintro e w1 ⟨rfl, b1⟩
          have k := (unhide Z).below b1
          have c0 := k.cell 0
          have c1 := k.cell 1
          have c2 := k.cell 2
          have c3 := k.cell 3
          have c4 := k.cell 4
          simp only [List.getElem?_toArray, List.getElem?_cons_succ, List.getElem?_cons_zero] at c0 c1 c2 c3 c4
          have B1 := hide (below_alloc' b1)
          have R1 := hide ((unhide HROW).below b1)
          have K := hide k
          clear b1 k
          go_wp2_with fail
          refine (unhide HF _ (unhide R1)).mono ?_
          rintro e w2 ⟨rfl, b2⟩
          have d1 := ((unhide K).below b2).cell 1
          simp only [List.getElem?_toArray, List.getElem?_cons_succ, List.getElem?_cons_zero] at d1
          have B2 := hide (belows (unhide B1) b2)
          have x2 : w2.cell? ⟨b, off + at_ * 3 + 1, none⟩ = some (.string dt) := ((unhide B2).cell (p := ⟨b, off + at_ * 3 + 1, none⟩) hbl).trans x1
          clear b2 c0 c1 c2 c3 c4
          go_wp2_with fail
          refine (hcn _).mono ?_
          rintro e w3 ⟨rfl, b3⟩
          have B3 := hide (belows (unhide B2) b3)
          clear b3
          go_wp2
          go_ret2
          exact ⟨rfl, unhide B3⟩

end Go.Proofs.Ytmfkhbofmaonkaa

/-
  What disk.List does, over this seat's program.
-/
set_option linter.unusedVariables false
set_option linter.unusedSimpArgs false
namespace Go.Proofs.Ytmfkhbofmaonkaa
open Go.RowKit Go.Proofs.Dsk

theorem names_take {l : List File} {k : Nat} (h : k < l.length) : (l.take (k + 1)).map (fun f => f.name) = (l.take k).map (fun f => f.name) ++ [l[k].name] := by
  rw [List.take_succ_eq_append_getElem h, List.map_append]; rfl

set_option maxHeartbeats 4000000 in
set_option maxRecDepth 100000 in
theorem list_any (d : Fs) (v : Value) (w : World) (hfit : FitAll d) (h : RowF w v d.files) :
    Calls Try.prog 12 #[fsV d v] w fun e w' => ∃ v', e = .returned (.tuple #[v', .int .i64 (listR d).2]) ∧ RowS w' v' (listR d).1 ∧ Below w.heap.size w w' := by
  have hb := (Below.refl w.heap.size w).alloc (Nat.le_refl _) (Obj.cells #[.int .i64 d.room, v, .int .i64 d.fuse, .int .i64 d.fault, .bool d.down] 24)
  have hrd := ready_any d v _ hfit.1 (h.below hb)
  have z0 := Blk.new w 24 #[.int .i64 d.room, v, .int .i64 d.fuse, .int .i64 d.fault, .bool d.down]
  have HROW := hide (h.below hb)
  have HB := hide hb
  have hno : ∀ W : World, RowS W (.slice none 0 0) [] := fun W => ⟨none, 0, rfl, by simp, by simp, Or.inl rfl⟩
  by_cases hrdy : ready d = 0
  · have hr : right d = true := by
      unfold ready at hrdy
      by_cases h0 : right d = false
      · rw [if_pos h0] at hrdy; omega
      · simpa using h0
    have hdn : ¬ d.down = true := by
      unfold ready at hrdy
      rw [if_neg (by simp [hr])] at hrdy
      intro h1
      rw [if_pos h1] at hrdy
      omega
    have hw : listR d = (d.files.map fun f => f.name, 0) := by unfold listR; rw [if_neg (by simp [hr]), if_neg hdn]
    rw [hrdy] at hrd
    rw [hw]
    obtain ⟨hp1, hp2, hp3, hp4⟩ := right_parts hr
    have hn10 := hp1.2.2.1
    have hsm := small_of_right hr
    obtain ⟨a, cap, rfl, _, _, hc⟩ := h
    have HC := hide hc
    have HSM := hide hsm
    simp only [fsV] at hrd ⊢
    have HRD := hide hrd
    have Z := hide z0
    obtain ⟨i0, hi, hz0, hz1, hz2⟩ := info_parts strInfo
    clear hrd hb z0 hr hrdy hw hdn hp1 hp2 hp3 hp4 hc hsm hno
    go_enter Try.func12, Try.ntmps12
    go_wp2_with fail
    refine (unhide HRD).mono ?_
    rintro e w1 ⟨rfl, b1⟩
    have c1 := ((unhide Z).below b1).cell 1
    simp only [List.getElem?_toArray, List.getElem?_cons_succ, List.getElem?_cons_zero] at c1
    have B1 := hide (below_alloc' b1)
    clear b1 HRD
    go_wp2
    go_loopw [5, 7, 16] (fun x y z wr => ∃ k : Nat, z = .int .i64 k ∧ k ≤ d.files.length ∧ wr.ownsRow w.heap.size 9 1 x k (cellsS ((d.files.take k).map fun f => f.name)) ∧ Below w.heap.size w wr) (fun _ _ z _ => d.files.length - (intOf z).toNat)
    case atStart => exact ⟨0, rfl, Nat.zero_le _, ⟨rfl, Or.inl ⟨rfl, rfl⟩⟩, unhide B1⟩
    case round =>
      obtain ⟨k, rfl, hk, hown, hbw⟩ := hrel
      have hbs := hbw.size
      by_cases hlt : k < d.files.length
      · rcases unhide HC with h0 | ⟨b, off, rfl, hbl, hcl⟩
        · rw [h0] at hlt; simp at hlt
        · obtain ⟨t0, t1, t2⟩ := row_cells hcl hlt
          have x0 : wr.cell? ⟨b, off + k * 3, none⟩ = some (.string d.files[k].name) := (hbw.cell (p := ⟨b, off + k * 3, none⟩) hbl).trans t0
          have x1 : wr.cell? ⟨b, off + k * 3 + 1, none⟩ = some (.string d.files[k].data) := (hbw.cell (p := ⟨b, off + k * 3 + 1, none⟩) hbl).trans t1
          have x2 : wr.cell? ⟨b, off + k * 3 + 2, none⟩ = some (.int .i64 d.files[k].synced) := (hbw.cell (p := ⟨b, off + k * 3 + 2, none⟩) hbl).trans t2
          have hs := (unhide HSM _ (List.getElem_mem hlt)).1
          have hlt1 : (k : Int) < (d.files.length : Int) := by omega
          have hnx := names_take hlt
          have HNX := hide hnx
          clear t0 t1 t2 hcl hnx
          generalize hn0 : d.files[k].name = n0 at x0 hs HNX
          generalize d.files[k].data = d0 at x1
          generalize d.files[k].synced = s0 at x2
          have hal := (Below.refl wr.heap.size wr).alloc (Nat.le_refl _) (Obj.cells #[.string n0, .string d0, .int .i64 s0] 56)
          have OWN1 := hide (own_below hown hal)
          have BW1 := hide (belows hbw hal)
          have hcl := fun X => clone_any n0 X hs
          clear hown hbw hal hn0
          go_wp2_with fail
          refine (hcl _).mono ?_
          rintro e w3 ⟨rfl, b3⟩
          have hown3 := own_below (unhide OWN1) b3
          have hb3 := belows (unhide BW1) b3
          have hs3 := hb3.size
          clear b3 OWN1 BW1 hcl
          go_wp2_with (at_builtin; refine wpList_append_own _ rfl _ _ 30 rfl w.heap.size 9 i0 (.string ByteArray.empty) 1 16 Try.underlying30 hi hz0 hz1 hz2 rfl (by decide) _ _ _ rfl (hown3.alloc _) ⟨w3.heap.size, 0, none⟩ 1 1 [.string n0] rfl rfl ?c1 ?c2 ?c3 ?c4 ?c5 ?_)
          case c1 =>
            intro j u hj
            match j, hj with
            | 0, hj => simp at hj; subst hj; simp [Addr.add]
          case c2 => intro u hu; simp at hu; subst hu; rfl
          case c3 => unfold maxLen; omega
          case c4 => omega
          case c5 => simp; omega
          intro v' w4 hown' hgrow _
          have hb4 : Below w.heap.size w w4 := (hb3.alloc hs3 _).grown hgrow (by simp; omega) (fun g hg => (hown3.lt g hg).1)
          have O4 : Hid (w4.ownsRow w.heap.size 9 1 v' (k + 1) (cellsS ((d.files.take (k + 1)).map fun f => f.name))) := by
            rw [unhide HNX, ← cellsS_snoc, List.map_take]
            exact hide hown'
          have B4 := hide hb4
          clear hown' hb4 hown3 hb3 hgrow
          go_wp2
          exact ⟨⟨k + 1, by go_num, by omega, unhide O4, unhide B4⟩, by simp [intOf]; omega⟩
      · have hke : k = d.files.length := by omega
        have htl : d.files.take k = d.files := by rw [hke]; simp
        rw [htl] at hown
        have hrs := rowS_of_own (l := d.files.map fun f => f.name) (by rw [List.length_map, ← hke]; exact hown) (by rw [List.length_map]; omega) (fun s hs => by
          obtain ⟨f, hf, rfl⟩ := List.mem_map.1 hs
          have := (unhide HSM f hf).1
          omega)
        have HR := hide hrs
        have HBW := hide hbw
        clear hown hbw hrs htl
        go_wp2
        go_ret2
        exact ⟨_, rfl, unhide HR, unhide HBW⟩
  · have hw : listR d = ([], ready d) := by
      unfold ready at hrdy ⊢
      unfold listR
      by_cases h0 : right d = false
      · rw [if_pos h0, if_pos h0]
      · rw [if_neg h0, if_neg h0]
        rw [if_neg h0] at hrdy
        by_cases h1 : d.down = true
        · rw [if_pos h1, if_pos h1]
        · rw [if_neg h1] at hrdy; omega
    rw [hw]
    obtain ⟨a, cap, rfl, _, _, _⟩ := h
    simp only [fsV] at hrd ⊢
    have HRD := hide hrd
    have hne : ((ready d : Nat) : Int) ≠ 0 := by omega
    have hnb : (((ready d : Nat) : Int) == 0) = false := by simpa using hne
    generalize ready d = rc at *
    clear hrd hb z0 hrdy hw
    go_enter Try.func12, Try.ntmps12
    go_wp2_with fail
    refine (unhide HRD).mono ?_
    rintro e w1 ⟨rfl, b1⟩
    have B1 := hide (below_alloc' b1)
    clear b1
    go_wp2
    go_ret2
    exact ⟨_, rfl, hno _, unhide B1⟩
end Go.Proofs.Ytmfkhbofmaonkaa

/-
  The answers that the document gives (missivelaw04.lives).
-/
set_option linter.unusedVariables false
set_option linter.unusedSimpArgs false
namespace Go.Proofs.Ytmfkhbofmaonkaa
open Go.RowKit Go.Proofs.Dsk

def L1 : Fs := ⟨10, [], -1, -1, false⟩
def L2 : Fs := ⟨10, [⟨⟨#[97]⟩, ⟨#[]⟩, 0⟩], -1, -1, false⟩
def L3 : Fs := ⟨10, [⟨⟨#[97]⟩, ⟨#[97, 98]⟩, 0⟩], -1, -1, false⟩
def L4 : Fs := ⟨10, [⟨⟨#[97]⟩, ⟨#[97, 98]⟩, 2⟩], -1, -1, false⟩
def L5 : Fs := ⟨10, [⟨⟨#[97]⟩, ⟨#[97, 98, 99, 100]⟩, 2⟩], -1, -1, false⟩
def L6 : Fs := ⟨10, [⟨⟨#[97]⟩, ⟨#[97, 98, 99]⟩, 3⟩], -1, -1, false⟩
def L8 : Fs := ⟨10, [⟨⟨#[98]⟩, ⟨#[97, 98, 99]⟩, 3⟩], -1, -1, false⟩
def L10 : Fs := ⟨10, [⟨⟨#[98]⟩, ⟨#[97]⟩, 1⟩], -1, -1, false⟩
def L11 : Fs := ⟨10, [], -1, -1, false⟩
theorem l1_is : makeR 10 = (L1, 0) := by decide
theorem l2_is : createR L1 ⟨#[97]⟩ = (L2, 0) := by decide
theorem l3_is : appendR L2 ⟨#[97]⟩ [⟨#[97]⟩, ⟨#[98]⟩] = (L3, 0) := by decide
theorem l4_is : syncR L3 ⟨#[97]⟩ = (L4, 0) := by decide
theorem l5_is : appendR L4 ⟨#[97]⟩ [⟨#[99, 100]⟩] = (L5, 0) := by decide
theorem l6_is : crashR L5 [1] = (L6, 0) := by decide
theorem l7_is : readR L6 ⟨#[97]⟩ = (⟨#[97, 98, 99]⟩, 0) := by decide
theorem l8_is : renameR L6 ⟨#[97]⟩ ⟨#[98]⟩ = (L8, 0) := by decide
theorem l9_is : listR L8 = ([⟨#[98]⟩], 0) := by decide
theorem l10_is : cutR L8 ⟨#[98]⟩ 1 = (L10, 0) := by decide
theorem l11_is : deleteR L10 ⟨#[98]⟩ = (L11, 0) := by decide
theorem l12_is : readR L11 ⟨#[98]⟩ = (ByteArray.empty, 3) := by decide
theorem l13_is : appendR L8 ⟨#[98]⟩ [⟨#[49, 50, 51, 52, 53, 54, 55, 56]⟩] = (L8, 8) := by decide
theorem l14_is : right L10 = true := by decide
theorem RowF.form {w : World} {v : Value} {l : List File} {n : Nat} (h : RowF w v l) (hn : l.length = n) : ∃ a cap, v = .slice a n cap := by
  obtain ⟨a, cap, hv, _⟩ := h
  exact ⟨a, cap, by rw [hv, hn]⟩
theorem RowS.form {w : World} {v : Value} {l : List ByteArray} {n : Nat} (h : RowS w v l) (hn : l.length = n) : ∃ a cap, v = .slice a n cap := by
  obtain ⟨a, cap, hv, _⟩ := h
  exact ⟨a, cap, by rw [hv, hn]⟩
theorem rowS_new (w : World) (p : Nat) (hp : p = w.heap.size) (l : List ByteArray) (n : Nat) (hn : l.length = n) (h6 : n ≤ 1024) (hs : ∀ s ∈ l, s.size ≤ 1024) : RowS (w.alloc (Obj.cells (l.map Value.string).toArray 9)) (.slice (some ⟨p, 0, none⟩) n n) l := by
  subst hn
  subst hp
  refine ⟨_, l.length, rfl, by omega, fun s h => Nat.le_trans (hs s h) (by omega), Or.inr ⟨w.heap.size, 0, rfl, by simp, fun j hj => ?_⟩⟩
  rw [Nat.zero_add, (Blk.new w _ _).cell j]
  simp [List.getElem?_eq_getElem hj]
theorem rowI_new (w : World) (p : Nat) (hp : p = w.heap.size) : RowI (w.alloc (Obj.cells #[.int .i64 1] 3)) (.slice (some ⟨p, 0, none⟩) 1 1) [1] := by
  subst hp
  exact ⟨_, 1, rfl, by simp, by simp, Or.inr ⟨w.heap.size, 0, rfl, by simp, fun j hj => by
    have : j = 0 := by simpa using hj
    subst this
    rw [Nat.zero_add, (Blk.new w _ _).cell 0]
    rfl⟩⟩

theorem fit1 : FitAll L1 := ⟨⟨⟨by decide, by decide⟩, ⟨by decide, by decide⟩, ⟨by decide, by decide⟩⟩, fun f hf => by simp [L1] at hf, by decide⟩
theorem fit2 : FitAll L2 := ⟨⟨⟨by decide, by decide⟩, ⟨by decide, by decide⟩, ⟨by decide, by decide⟩⟩, fun f hf => by
  have h : f = L2.files[0] := by simpa [L2] using hf
  rw [h]
  exact ⟨by decide, by decide, by decide, by decide⟩, by decide⟩
theorem fit3 : FitAll L3 := ⟨⟨⟨by decide, by decide⟩, ⟨by decide, by decide⟩, ⟨by decide, by decide⟩⟩, fun f hf => by
  have h : f = L3.files[0] := by simpa [L3] using hf
  rw [h]
  exact ⟨by decide, by decide, by decide, by decide⟩, by decide⟩
theorem fit4 : FitAll L4 := ⟨⟨⟨by decide, by decide⟩, ⟨by decide, by decide⟩, ⟨by decide, by decide⟩⟩, fun f hf => by
  have h : f = L4.files[0] := by simpa [L4] using hf
  rw [h]
  exact ⟨by decide, by decide, by decide, by decide⟩, by decide⟩
theorem fit5 : FitAll L5 := ⟨⟨⟨by decide, by decide⟩, ⟨by decide, by decide⟩, ⟨by decide, by decide⟩⟩, fun f hf => by
  have h : f = L5.files[0] := by simpa [L5] using hf
  rw [h]
  exact ⟨by decide, by decide, by decide, by decide⟩, by decide⟩
theorem fit6 : FitAll L6 := ⟨⟨⟨by decide, by decide⟩, ⟨by decide, by decide⟩, ⟨by decide, by decide⟩⟩, fun f hf => by
  have h : f = L6.files[0] := by simpa [L6] using hf
  rw [h]
  exact ⟨by decide, by decide, by decide, by decide⟩, by decide⟩
theorem fit8 : FitAll L8 := ⟨⟨⟨by decide, by decide⟩, ⟨by decide, by decide⟩, ⟨by decide, by decide⟩⟩, fun f hf => by
  have h : f = L8.files[0] := by simpa [L8] using hf
  rw [h]
  exact ⟨by decide, by decide, by decide, by decide⟩, by decide⟩
theorem fit10 : FitAll L10 := ⟨⟨⟨by decide, by decide⟩, ⟨by decide, by decide⟩, ⟨by decide, by decide⟩⟩, fun f hf => by
  have h : f = L10.files[0] := by simpa [L10] using hf
  rw [h]
  exact ⟨by decide, by decide, by decide, by decide⟩, by decide⟩
theorem fit11 : FitAll L11 := ⟨⟨⟨by decide, by decide⟩, ⟨by decide, by decide⟩, ⟨by decide, by decide⟩⟩, fun f hf => by simp [L11] at hf, by decide⟩
end Go.Proofs.Ytmfkhbofmaonkaa

/-
  What missivelaw04.lives does, over this seat's program.
-/
set_option linter.unusedVariables false
set_option linter.unusedSimpArgs false
namespace Go.Proofs.Ytmfkhbofmaonkaa
open Go.RowKit Go.Proofs.Dsk


set_option maxHeartbeats 8000000 in
set_option maxRecDepth 100000 in
theorem lives_any (w : World) : Calls Try.prog 16 #[] w fun e w' => e = .returned (.bool true) ∧ Below w.heap.size w w' := by
  go_enter Try.func16, Try.ntmps16
  go_wp2_with fail
  have HC : ∀ X : World, Calls Try.prog 14 #[.int .i64 10] X fun e w' => ∃ v', e = .returned (.tuple #[.agg #[.int .i64 10, v', .int .i64 (-1), .int .i64 (-1), .bool false], .int .i64 0]) ∧ RowF w' v' L1.files ∧ Below X.heap.size X w' := fun X => by
    have h := make_any 10 X (by omega) (by omega)
    rw [l1_is] at h
    exact h.mono (fun e w' ⟨v', h1, h2, _, h3⟩ => ⟨v', h1, h2, h3⟩)
  refine (HC _).mono ?_
  clear HC
  rintro e w1 ⟨v1, rfl, r1, b1⟩
  obtain ⟨a1, cap1, rfl⟩ := r1.form (n := 0) rfl
  have B1 := hide b1
  have x1 : Below w1.heap.size w1 (w1.alloc (Obj.cells #[.int .i64 10, (.slice a1 0 cap1), .int .i64 (-1), .int .i64 (-1), .bool false] 24)) := (Below.refl _ _).alloc (Nat.le_refl _) _
  have R := hide (r1.below x1)
  have BX := hide (belows (unhide B1) x1)
  have K := hide (Blk.new w1 24 #[.int .i64 10, (.slice a1 0 cap1), .int .i64 (-1), .int .i64 (-1), .bool false])
  have hbw := (unhide B1).size
  clear r1 b1 x1 B1
  have HC : ∀ X : World, RowF X (.slice a1 0 cap1) L1.files → Calls Try.prog 6 #[.agg #[.int .i64 10, (.slice a1 0 cap1), .int .i64 (-1), .int .i64 (-1), .bool false], .string ⟨#[97]⟩] X fun e w' => ∃ v', e = .returned (.tuple #[.agg #[.int .i64 10, v', .int .i64 (-1), .int .i64 (-1), .bool false], .int .i64 0]) ∧ RowF w' v' L2.files ∧ Below X.heap.size X w' := fun X hX => by
    have h := create_any L1 (.slice a1 0 cap1) ⟨#[97]⟩ X fit1 hX (by decide)
    rw [l2_is] at h
    exact h.mono (fun e w' ⟨v', h1, h2, _, h3⟩ => ⟨v', h1, h2, h3⟩)
  have HH := hide HC
  clear HC
  go_wp2_with fail
  refine (unhide HH _ (unhide R)).mono ?_
  clear HH
  rintro e w2 ⟨v2, rfl, r2, b2⟩
  obtain ⟨a2, cap2, rfl⟩ := r2.form (n := 1) rfl
  have bX := b2
  have k := (unhide K).below bX
  have BY := hide (belows (unhide BX) bX)
  have e0 := k.cell 0
  have e1 := k.cell 1
  have e2 := k.cell 2
  have e3 := k.cell 3
  have e4 := k.cell 4
  have f0 := k.frozen 0
  have f1 := k.frozen 1
  have f2 := k.frozen 2
  have f3 := k.frozen 3
  have f4 := k.frozen 4
  simp only [List.getElem?_toArray, List.getElem?_cons_succ, List.getElem?_cons_zero] at e0 e1 e2 e3 e4
  have R2 := hide (rowF5 r2 k (by intro i x; match i with | 0 | 1 | 2 | 3 | 4 => simp | i + 5 => simp))
  have BX2 := hide (below5 (s := w1.heap.size) (unhide BY) (by omega) (.int .i64 10) (.slice a2 1 cap2) (.int .i64 (-1)) (.int .i64 (-1)) (.bool false))
  have K2 : Hid (Blk (((((w2.setCell ⟨w1.heap.size, 0, none⟩ (.int .i64 10)).setCell ⟨w1.heap.size, 1, none⟩ (.slice a2 1 cap2)).setCell ⟨w1.heap.size, 2, none⟩ (.int .i64 (-1))).setCell ⟨w1.heap.size, 3, none⟩ (.int .i64 (-1))).setCell ⟨w1.heap.size, 4, none⟩ (.bool false)) w1.heap.size 24 #[.int .i64 10, (.slice a2 1 cap2), .int .i64 (-1), .int .i64 (-1), .bool false]) := hide (((((k.set 0 (.int .i64 10)).set 1 (.slice a2 1 cap2)).set 2 (.int .i64 (-1))).set 3 (.int .i64 (-1))).set 4 (.bool false))
  have R3 := hide (unhide R2 (.int .i64 10) (.slice a2 1 cap2) (.int .i64 (-1)) (.int .i64 (-1)) (.bool false))
  clear R BX K k BY R2 bX r2 b2
  have R := R3
  have BX := BX2
  have K := K2
  clear R3 BX2 K2
  have HC : ∀ X : World, RowF X (.slice a2 1 cap2) L2.files → ∀ s, RowS X (.slice (some ⟨s, 0, none⟩) 2 2) [⟨#[97]⟩, ⟨#[98]⟩] → Calls Try.prog 21 #[.agg #[.int .i64 10, (.slice a2 1 cap2), .int .i64 (-1), .int .i64 (-1), .bool false], .string ⟨#[97]⟩, .slice (some ⟨s, 0, none⟩) 2 2] X fun e w' => ∃ v', e = .returned (.tuple #[.agg #[.int .i64 10, v', .int .i64 (-1), .int .i64 (-1), .bool false], .int .i64 0]) ∧ RowF w' v' L3.files ∧ Below X.heap.size X w' := fun X hX s hs => by
    have h := append_any L2 (.slice a2 1 cap2) ⟨#[97]⟩ (some ⟨s, 0, none⟩) 2 2 [⟨#[97]⟩, ⟨#[98]⟩] X fit2 hX hs
    rw [l3_is] at h
    exact h.mono (fun e w' ⟨v', h1, h2, _, h3⟩ => ⟨v', h1, h2, h3⟩)
  have HH := hide HC
  clear HC
  have bal : Below (((((w2.setCell ⟨w1.heap.size, 0, none⟩ (.int .i64 10)).setCell ⟨w1.heap.size, 1, none⟩ (.slice a2 1 cap2)).setCell ⟨w1.heap.size, 2, none⟩ (.int .i64 (-1))).setCell ⟨w1.heap.size, 3, none⟩ (.int .i64 (-1))).setCell ⟨w1.heap.size, 4, none⟩ (.bool false)).heap.size (((((w2.setCell ⟨w1.heap.size, 0, none⟩ (.int .i64 10)).setCell ⟨w1.heap.size, 1, none⟩ (.slice a2 1 cap2)).setCell ⟨w1.heap.size, 2, none⟩ (.int .i64 (-1))).setCell ⟨w1.heap.size, 3, none⟩ (.int .i64 (-1))).setCell ⟨w1.heap.size, 4, none⟩ (.bool false)) ((((((w2.setCell ⟨w1.heap.size, 0, none⟩ (.int .i64 10)).setCell ⟨w1.heap.size, 1, none⟩ (.slice a2 1 cap2)).setCell ⟨w1.heap.size, 2, none⟩ (.int .i64 (-1))).setCell ⟨w1.heap.size, 3, none⟩ (.int .i64 (-1))).setCell ⟨w1.heap.size, 4, none⟩ (.bool false)).alloc (Obj.cells #[.string ⟨#[97]⟩, .string ⟨#[98]⟩] 9)) := (Below.refl _ _).alloc (Nat.le_refl _) _
  have RY := hide ((unhide R).below bal)
  have SY : Hid (RowS ((((((w2.setCell ⟨w1.heap.size, 0, none⟩ (.int .i64 10)).setCell ⟨w1.heap.size, 1, none⟩ (.slice a2 1 cap2)).setCell ⟨w1.heap.size, 2, none⟩ (.int .i64 (-1))).setCell ⟨w1.heap.size, 3, none⟩ (.int .i64 (-1))).setCell ⟨w1.heap.size, 4, none⟩ (.bool false)).alloc (Obj.cells #[.string ⟨#[97]⟩, .string ⟨#[98]⟩] 9)) (.slice (some ⟨w2.heap.size, 0, none⟩) 2 2) [⟨#[97]⟩, ⟨#[98]⟩]) := hide (rowS_new (((((w2.setCell ⟨w1.heap.size, 0, none⟩ (.int .i64 10)).setCell ⟨w1.heap.size, 1, none⟩ (.slice a2 1 cap2)).setCell ⟨w1.heap.size, 2, none⟩ (.int .i64 (-1))).setCell ⟨w1.heap.size, 3, none⟩ (.int .i64 (-1))).setCell ⟨w1.heap.size, 4, none⟩ (.bool false)) w2.heap.size (by simp) [⟨#[97]⟩, ⟨#[98]⟩] 2 rfl (by decide) (by decide))
  have BAL := hide bal
  clear bal
  go_wp2_with fail
  refine (unhide HH _ (unhide RY) _ (unhide SY)).mono ?_
  clear RY SY
  clear HH
  rintro e w3 ⟨v3, rfl, r3, b3⟩
  obtain ⟨a3, cap3, rfl⟩ := r3.form (n := 1) rfl
  have bX := belows (unhide BAL) b3
  clear BAL
  have k := (unhide K).below bX
  have BY := hide (belows (unhide BX) bX)
  have e0 := k.cell 0
  have e1 := k.cell 1
  have e2 := k.cell 2
  have e3 := k.cell 3
  have e4 := k.cell 4
  have f0 := k.frozen 0
  have f1 := k.frozen 1
  have f2 := k.frozen 2
  have f3 := k.frozen 3
  have f4 := k.frozen 4
  simp only [List.getElem?_toArray, List.getElem?_cons_succ, List.getElem?_cons_zero] at e0 e1 e2 e3 e4
  have R2 := hide (rowF5 r3 k (by intro i x; match i with | 0 | 1 | 2 | 3 | 4 => simp | i + 5 => simp))
  have BX2 := hide (below5 (s := w1.heap.size) (unhide BY) (by omega) (.int .i64 10) (.slice a3 1 cap3) (.int .i64 (-1)) (.int .i64 (-1)) (.bool false))
  have K2 : Hid (Blk (((((w3.setCell ⟨w1.heap.size, 0, none⟩ (.int .i64 10)).setCell ⟨w1.heap.size, 1, none⟩ (.slice a3 1 cap3)).setCell ⟨w1.heap.size, 2, none⟩ (.int .i64 (-1))).setCell ⟨w1.heap.size, 3, none⟩ (.int .i64 (-1))).setCell ⟨w1.heap.size, 4, none⟩ (.bool false)) w1.heap.size 24 #[.int .i64 10, (.slice a3 1 cap3), .int .i64 (-1), .int .i64 (-1), .bool false]) := hide (((((k.set 0 (.int .i64 10)).set 1 (.slice a3 1 cap3)).set 2 (.int .i64 (-1))).set 3 (.int .i64 (-1))).set 4 (.bool false))
  have R3 := hide (unhide R2 (.int .i64 10) (.slice a3 1 cap3) (.int .i64 (-1)) (.int .i64 (-1)) (.bool false))
  clear R BX K k BY R2 bX r3 b3
  have R := R3
  have BX := BX2
  have K := K2
  clear R3 BX2 K2
  have HC : ∀ X : World, RowF X (.slice a3 1 cap3) L3.files → Calls Try.prog 23 #[.agg #[.int .i64 10, (.slice a3 1 cap3), .int .i64 (-1), .int .i64 (-1), .bool false], .string ⟨#[97]⟩] X fun e w' => ∃ v', e = .returned (.tuple #[.agg #[.int .i64 10, v', .int .i64 (-1), .int .i64 (-1), .bool false], .int .i64 0]) ∧ RowF w' v' L4.files ∧ Below X.heap.size X w' := fun X hX => by
    have h := sync_any L3 (.slice a3 1 cap3) ⟨#[97]⟩ X fit3 hX
    rw [l4_is] at h
    exact h.mono (fun e w' ⟨v', h1, h2, _, h3⟩ => ⟨v', h1, h2, h3⟩)
  have HH := hide HC
  clear HC
  go_wp2_with fail
  refine (unhide HH _ (unhide R)).mono ?_
  clear HH
  rintro e w4 ⟨v4, rfl, r4, b4⟩
  obtain ⟨a4, cap4, rfl⟩ := r4.form (n := 1) rfl
  have bX := b4
  have k := (unhide K).below bX
  have BY := hide (belows (unhide BX) bX)
  have e0 := k.cell 0
  have e1 := k.cell 1
  have e2 := k.cell 2
  have e3 := k.cell 3
  have e4 := k.cell 4
  have f0 := k.frozen 0
  have f1 := k.frozen 1
  have f2 := k.frozen 2
  have f3 := k.frozen 3
  have f4 := k.frozen 4
  simp only [List.getElem?_toArray, List.getElem?_cons_succ, List.getElem?_cons_zero] at e0 e1 e2 e3 e4
  have R2 := hide (rowF5 r4 k (by intro i x; match i with | 0 | 1 | 2 | 3 | 4 => simp | i + 5 => simp))
  have BX2 := hide (below5 (s := w1.heap.size) (unhide BY) (by omega) (.int .i64 10) (.slice a4 1 cap4) (.int .i64 (-1)) (.int .i64 (-1)) (.bool false))
  have K2 : Hid (Blk (((((w4.setCell ⟨w1.heap.size, 0, none⟩ (.int .i64 10)).setCell ⟨w1.heap.size, 1, none⟩ (.slice a4 1 cap4)).setCell ⟨w1.heap.size, 2, none⟩ (.int .i64 (-1))).setCell ⟨w1.heap.size, 3, none⟩ (.int .i64 (-1))).setCell ⟨w1.heap.size, 4, none⟩ (.bool false)) w1.heap.size 24 #[.int .i64 10, (.slice a4 1 cap4), .int .i64 (-1), .int .i64 (-1), .bool false]) := hide (((((k.set 0 (.int .i64 10)).set 1 (.slice a4 1 cap4)).set 2 (.int .i64 (-1))).set 3 (.int .i64 (-1))).set 4 (.bool false))
  have R3 := hide (unhide R2 (.int .i64 10) (.slice a4 1 cap4) (.int .i64 (-1)) (.int .i64 (-1)) (.bool false))
  clear R BX K k BY R2 bX r4 b4
  have R := R3
  have BX := BX2
  have K := K2
  clear R3 BX2 K2
  have HC : ∀ X : World, RowF X (.slice a4 1 cap4) L4.files → ∀ s, RowS X (.slice (some ⟨s, 0, none⟩) 1 1) [⟨#[99, 100]⟩] → Calls Try.prog 21 #[.agg #[.int .i64 10, (.slice a4 1 cap4), .int .i64 (-1), .int .i64 (-1), .bool false], .string ⟨#[97]⟩, .slice (some ⟨s, 0, none⟩) 1 1] X fun e w' => ∃ v', e = .returned (.tuple #[.agg #[.int .i64 10, v', .int .i64 (-1), .int .i64 (-1), .bool false], .int .i64 0]) ∧ RowF w' v' L5.files ∧ Below X.heap.size X w' := fun X hX s hs => by
    have h := append_any L4 (.slice a4 1 cap4) ⟨#[97]⟩ (some ⟨s, 0, none⟩) 1 1 [⟨#[99, 100]⟩] X fit4 hX hs
    rw [l5_is] at h
    exact h.mono (fun e w' ⟨v', h1, h2, _, h3⟩ => ⟨v', h1, h2, h3⟩)
  have HH := hide HC
  clear HC
  have bal : Below (((((w4.setCell ⟨w1.heap.size, 0, none⟩ (.int .i64 10)).setCell ⟨w1.heap.size, 1, none⟩ (.slice a4 1 cap4)).setCell ⟨w1.heap.size, 2, none⟩ (.int .i64 (-1))).setCell ⟨w1.heap.size, 3, none⟩ (.int .i64 (-1))).setCell ⟨w1.heap.size, 4, none⟩ (.bool false)).heap.size (((((w4.setCell ⟨w1.heap.size, 0, none⟩ (.int .i64 10)).setCell ⟨w1.heap.size, 1, none⟩ (.slice a4 1 cap4)).setCell ⟨w1.heap.size, 2, none⟩ (.int .i64 (-1))).setCell ⟨w1.heap.size, 3, none⟩ (.int .i64 (-1))).setCell ⟨w1.heap.size, 4, none⟩ (.bool false)) ((((((w4.setCell ⟨w1.heap.size, 0, none⟩ (.int .i64 10)).setCell ⟨w1.heap.size, 1, none⟩ (.slice a4 1 cap4)).setCell ⟨w1.heap.size, 2, none⟩ (.int .i64 (-1))).setCell ⟨w1.heap.size, 3, none⟩ (.int .i64 (-1))).setCell ⟨w1.heap.size, 4, none⟩ (.bool false)).alloc (Obj.cells #[.string ⟨#[99, 100]⟩] 9)) := (Below.refl _ _).alloc (Nat.le_refl _) _
  have RY := hide ((unhide R).below bal)
  have SY : Hid (RowS ((((((w4.setCell ⟨w1.heap.size, 0, none⟩ (.int .i64 10)).setCell ⟨w1.heap.size, 1, none⟩ (.slice a4 1 cap4)).setCell ⟨w1.heap.size, 2, none⟩ (.int .i64 (-1))).setCell ⟨w1.heap.size, 3, none⟩ (.int .i64 (-1))).setCell ⟨w1.heap.size, 4, none⟩ (.bool false)).alloc (Obj.cells #[.string ⟨#[99, 100]⟩] 9)) (.slice (some ⟨w4.heap.size, 0, none⟩) 1 1) [⟨#[99, 100]⟩]) := hide (rowS_new (((((w4.setCell ⟨w1.heap.size, 0, none⟩ (.int .i64 10)).setCell ⟨w1.heap.size, 1, none⟩ (.slice a4 1 cap4)).setCell ⟨w1.heap.size, 2, none⟩ (.int .i64 (-1))).setCell ⟨w1.heap.size, 3, none⟩ (.int .i64 (-1))).setCell ⟨w1.heap.size, 4, none⟩ (.bool false)) w4.heap.size (by simp) [⟨#[99, 100]⟩] 1 rfl (by decide) (by decide))
  have BAL := hide bal
  clear bal
  go_wp2_with fail
  refine (unhide HH _ (unhide RY) _ (unhide SY)).mono ?_
  clear RY SY
  clear HH
  rintro e w5 ⟨v5, rfl, r5, b5⟩
  obtain ⟨a5, cap5, rfl⟩ := r5.form (n := 1) rfl
  have bX := belows (unhide BAL) b5
  clear BAL
  have k := (unhide K).below bX
  have BY := hide (belows (unhide BX) bX)
  have e0 := k.cell 0
  have e1 := k.cell 1
  have e2 := k.cell 2
  have e3 := k.cell 3
  have e4 := k.cell 4
  have f0 := k.frozen 0
  have f1 := k.frozen 1
  have f2 := k.frozen 2
  have f3 := k.frozen 3
  have f4 := k.frozen 4
  simp only [List.getElem?_toArray, List.getElem?_cons_succ, List.getElem?_cons_zero] at e0 e1 e2 e3 e4
  have R2 := hide (rowF5 r5 k (by intro i x; match i with | 0 | 1 | 2 | 3 | 4 => simp | i + 5 => simp))
  have BX2 := hide (below5 (s := w1.heap.size) (unhide BY) (by omega) (.int .i64 10) (.slice a5 1 cap5) (.int .i64 (-1)) (.int .i64 (-1)) (.bool false))
  have K2 : Hid (Blk (((((w5.setCell ⟨w1.heap.size, 0, none⟩ (.int .i64 10)).setCell ⟨w1.heap.size, 1, none⟩ (.slice a5 1 cap5)).setCell ⟨w1.heap.size, 2, none⟩ (.int .i64 (-1))).setCell ⟨w1.heap.size, 3, none⟩ (.int .i64 (-1))).setCell ⟨w1.heap.size, 4, none⟩ (.bool false)) w1.heap.size 24 #[.int .i64 10, (.slice a5 1 cap5), .int .i64 (-1), .int .i64 (-1), .bool false]) := hide (((((k.set 0 (.int .i64 10)).set 1 (.slice a5 1 cap5)).set 2 (.int .i64 (-1))).set 3 (.int .i64 (-1))).set 4 (.bool false))
  have R3 := hide (unhide R2 (.int .i64 10) (.slice a5 1 cap5) (.int .i64 (-1)) (.int .i64 (-1)) (.bool false))
  clear R BX K k BY R2 bX r5 b5
  have R := R3
  have BX := BX2
  have K := K2
  clear R3 BX2 K2
  have HC : ∀ X : World, RowF X (.slice a5 1 cap5) L5.files → ∀ s, RowI X (.slice (some ⟨s, 0, none⟩) 1 1) [1] → Calls Try.prog 29 #[.agg #[.int .i64 10, (.slice a5 1 cap5), .int .i64 (-1), .int .i64 (-1), .bool false], .slice (some ⟨s, 0, none⟩) 1 1] X fun e w' => ∃ v', e = .returned (.tuple #[.agg #[.int .i64 10, v', .int .i64 (-1), .int .i64 (-1), .bool false], .int .i64 0]) ∧ RowF w' v' L6.files ∧ Below X.heap.size X w' := fun X hX s hs => by
    have h := crash_any L5 (.slice a5 1 cap5) _ [1] X fit5 hX hs
    rw [l6_is] at h
    exact h.mono (fun e w' ⟨v', h1, h2, _, h3⟩ => ⟨v', h1, h2, h3⟩)
  have HH := hide HC
  clear HC
  have bal : Below (((((w5.setCell ⟨w1.heap.size, 0, none⟩ (.int .i64 10)).setCell ⟨w1.heap.size, 1, none⟩ (.slice a5 1 cap5)).setCell ⟨w1.heap.size, 2, none⟩ (.int .i64 (-1))).setCell ⟨w1.heap.size, 3, none⟩ (.int .i64 (-1))).setCell ⟨w1.heap.size, 4, none⟩ (.bool false)).heap.size (((((w5.setCell ⟨w1.heap.size, 0, none⟩ (.int .i64 10)).setCell ⟨w1.heap.size, 1, none⟩ (.slice a5 1 cap5)).setCell ⟨w1.heap.size, 2, none⟩ (.int .i64 (-1))).setCell ⟨w1.heap.size, 3, none⟩ (.int .i64 (-1))).setCell ⟨w1.heap.size, 4, none⟩ (.bool false)) ((((((w5.setCell ⟨w1.heap.size, 0, none⟩ (.int .i64 10)).setCell ⟨w1.heap.size, 1, none⟩ (.slice a5 1 cap5)).setCell ⟨w1.heap.size, 2, none⟩ (.int .i64 (-1))).setCell ⟨w1.heap.size, 3, none⟩ (.int .i64 (-1))).setCell ⟨w1.heap.size, 4, none⟩ (.bool false)).alloc (Obj.cells #[.int .i64 1] 3)) := (Below.refl _ _).alloc (Nat.le_refl _) _
  have RY := hide ((unhide R).below bal)
  have SY : Hid (RowI ((((((w5.setCell ⟨w1.heap.size, 0, none⟩ (.int .i64 10)).setCell ⟨w1.heap.size, 1, none⟩ (.slice a5 1 cap5)).setCell ⟨w1.heap.size, 2, none⟩ (.int .i64 (-1))).setCell ⟨w1.heap.size, 3, none⟩ (.int .i64 (-1))).setCell ⟨w1.heap.size, 4, none⟩ (.bool false)).alloc (Obj.cells #[.int .i64 1] 3)) (.slice (some ⟨w5.heap.size, 0, none⟩) 1 1) [1]) := hide (rowI_new (((((w5.setCell ⟨w1.heap.size, 0, none⟩ (.int .i64 10)).setCell ⟨w1.heap.size, 1, none⟩ (.slice a5 1 cap5)).setCell ⟨w1.heap.size, 2, none⟩ (.int .i64 (-1))).setCell ⟨w1.heap.size, 3, none⟩ (.int .i64 (-1))).setCell ⟨w1.heap.size, 4, none⟩ (.bool false)) w5.heap.size (by simp))
  have BAL := hide bal
  clear bal
  go_wp2_with fail
  refine (unhide HH _ (unhide RY) _ (unhide SY)).mono ?_
  clear RY SY HH
  rintro e w6 ⟨v6, rfl, r6, b6⟩
  obtain ⟨a6, cap6, rfl⟩ := r6.form (n := 1) rfl
  have bX := belows (unhide BAL) b6
  have BN := hide (belows (unhide BX) bX)
  clear BX BAL bX b6 R K
  have BX := BN
  clear BN e0 e1 e2 e3 e4 f0 f1 f2 f3 f4
  have bal : Below w6.heap.size w6 (w6.alloc (Obj.cells #[.int .i64 10, (.slice a6 1 cap6), .int .i64 (-1), .int .i64 (-1), .bool false] 24)) := (Below.refl _ _).alloc (Nat.le_refl _) _
  have BN := hide (belows (unhide BX) bal)
  clear BX
  have BX := BN
  clear BN
  have Kc := hide (Blk.new w6 24 #[.int .i64 10, (.slice a6 1 cap6), .int .i64 (-1), .int .i64 (-1), .bool false])
  have Rc := hide (r6.below bal)
  clear bal r6
  have HC : ∀ X : World, RowF X (.slice a6 1 cap6) L6.files → Calls Try.prog 27 #[.agg #[.int .i64 10, (.slice a6 1 cap6), .int .i64 (-1), .int .i64 (-1), .bool false], .string ⟨#[97]⟩] X fun e w' => e = .returned (.tuple #[.string ⟨#[97, 98, 99]⟩, .int .i64 0]) ∧ Below X.heap.size X w' := fun X hX => by
    have h := read_any L6 (.slice a6 1 cap6) ⟨#[97]⟩ X fit6 hX
    rw [l7_is] at h
    exact h
  have HH := hide HC
  clear HC
  go_wp2_with fail
  refine (unhide HH _ (unhide Rc)).mono ?_
  clear HH
  rintro e w7 ⟨rfl, bX⟩
  have KN := hide ((unhide Kc).below bX)
  have RN := hide ((unhide Rc).below bX)
  clear Kc Rc
  have Kc := KN
  have Rc := RN
  clear KN RN
  have BN := hide (belows (unhide BX) bX)
  clear BX
  have BX := BN
  clear BN
  clear bX
  have HC : ∀ X : World, RowF X (.slice a6 1 cap6) L6.files → Calls Try.prog 8 #[.agg #[.int .i64 10, (.slice a6 1 cap6), .int .i64 (-1), .int .i64 (-1), .bool false], .string ⟨#[97]⟩, .string ⟨#[98]⟩] X fun e w' => ∃ v', e = .returned (.tuple #[.agg #[.int .i64 10, v', .int .i64 (-1), .int .i64 (-1), .bool false], .int .i64 0]) ∧ RowF w' v' L8.files ∧ Below X.heap.size X w' := fun X hX => by
    have h := rename_any L6 (.slice a6 1 cap6) ⟨#[97]⟩ ⟨#[98]⟩ X fit6 hX (by decide)
    rw [l8_is] at h
    exact h.mono (fun e w' ⟨v', h1, h2, _, h3⟩ => ⟨v', h1, h2, h3⟩)
  have HH := hide HC
  clear HC
  have c0 := (unhide Kc).cell 0
  have c1 := (unhide Kc).cell 1
  have c2 := (unhide Kc).cell 2
  have c3 := (unhide Kc).cell 3
  have c4 := (unhide Kc).cell 4
  simp only [List.getElem?_toArray, List.getElem?_cons_succ, List.getElem?_cons_zero] at c0 c1 c2 c3 c4
  go_wp2_with fail
  clear c0 c1 c2 c3 c4
  refine (unhide HH _ (unhide Rc)).mono ?_
  clear HH
  rintro e w8 ⟨v8, rfl, r8, b8⟩
  obtain ⟨a8, cap8, rfl⟩ := r8.form (n := 1) rfl
  have KN := hide ((unhide Kc).below b8)
  have RN := hide ((unhide Rc).below b8)
  clear Kc Rc
  have Kc := KN
  have Rc := RN
  clear KN RN
  have BN := hide (belows (unhide BX) b8)
  clear BX
  have BX := BN
  clear BN
  clear b8
  have bal : Below w8.heap.size w8 (w8.alloc (Obj.cells #[.int .i64 10, (.slice a8 1 cap8), .int .i64 (-1), .int .i64 (-1), .bool false] 24)) := (Below.refl _ _).alloc (Nat.le_refl _) _
  have KN := hide ((unhide Kc).below bal)
  have RN := hide ((unhide Rc).below bal)
  clear Kc Rc
  have Kc := KN
  have Rc := RN
  clear KN RN
  have BN := hide (belows (unhide BX) bal)
  clear BX
  have BX := BN
  clear BN
  have Ke := hide (Blk.new w8 24 #[.int .i64 10, (.slice a8 1 cap8), .int .i64 (-1), .int .i64 (-1), .bool false])
  have Re := hide (r8.below bal)
  clear bal r8
  have HC : ∀ X : World, RowF X (.slice a8 1 cap8) L8.files → Calls Try.prog 12 #[.agg #[.int .i64 10, (.slice a8 1 cap8), .int .i64 (-1), .int .i64 (-1), .bool false]] X fun e w' => ∃ v', e = .returned (.tuple #[v', .int .i64 0]) ∧ RowS w' v' [⟨#[98]⟩] ∧ Below X.heap.size X w' := fun X hX => by
    have h := list_any L8 (.slice a8 1 cap8) X fit8 hX
    rw [l9_is] at h
    exact h
  have HH := hide HC
  clear HC
  go_wp2_with fail
  refine (unhide HH _ (unhide Re)).mono ?_
  clear HH
  rintro e w9 ⟨v9, rfl, r9, bX⟩
  obtain ⟨la, lc, rfl⟩ := r9.form (n := 1) rfl
  have KN := hide ((unhide Kc).below bX)
  have RN := hide ((unhide Rc).below bX)
  clear Kc Rc
  have Kc := KN
  have Rc := RN
  clear KN RN
  have KN := hide ((unhide Ke).below bX)
  have RN := hide ((unhide Re).below bX)
  clear Ke Re
  have Ke := KN
  have Re := RN
  clear KN RN
  have BN := hide (belows (unhide BX) bX)
  clear BX
  have BX := BN
  clear BN
  have LR := hide r9
  clear bX r9
  have HC : ∀ X : World, RowF X (.slice a8 1 cap8) L8.files → Calls Try.prog 25 #[.agg #[.int .i64 10, (.slice a8 1 cap8), .int .i64 (-1), .int .i64 (-1), .bool false], .string ⟨#[98]⟩, .int .i64 1] X fun e w' => ∃ v', e = .returned (.tuple #[.agg #[.int .i64 10, v', .int .i64 (-1), .int .i64 (-1), .bool false], .int .i64 0]) ∧ RowF w' v' L10.files ∧ Below X.heap.size X w' := fun X hX => by
    have h := cut_any L8 (.slice a8 1 cap8) ⟨#[98]⟩ 1 X fit8 hX (by omega) (by omega)
    rw [l10_is] at h
    exact h.mono (fun e w' ⟨v', h1, h2, _, h3⟩ => ⟨v', h1, h2, h3⟩)
  have HH := hide HC
  clear HC
  have c0 := (unhide Ke).cell 0
  have c1 := (unhide Ke).cell 1
  have c2 := (unhide Ke).cell 2
  have c3 := (unhide Ke).cell 3
  have c4 := (unhide Ke).cell 4
  simp only [List.getElem?_toArray, List.getElem?_cons_succ, List.getElem?_cons_zero] at c0 c1 c2 c3 c4
  go_wp2_with fail
  clear c0 c1 c2 c3 c4
  refine (unhide HH _ (unhide Re)).mono ?_
  clear HH
  rintro e w10 ⟨v10, rfl, r10, b10⟩
  obtain ⟨a10, cap10, rfl⟩ := r10.form (n := 1) rfl
  have KN := hide ((unhide Kc).below b10)
  have RN := hide ((unhide Rc).below b10)
  clear Kc Rc
  have Kc := KN
  have Rc := RN
  clear KN RN
  have KN := hide ((unhide Ke).below b10)
  have RN := hide ((unhide Re).below b10)
  clear Ke Re
  have Ke := KN
  have Re := RN
  clear KN RN
  have LN := hide ((unhide LR).below b10)
  clear LR
  have LR := LN
  clear LN
  have BN := hide (belows (unhide BX) b10)
  clear BX
  have BX := BN
  clear BN
  clear b10
  have bal : Below w10.heap.size w10 (w10.alloc (Obj.cells #[.int .i64 10, (.slice a10 1 cap10), .int .i64 (-1), .int .i64 (-1), .bool false] 24)) := (Below.refl _ _).alloc (Nat.le_refl _) _
  have KN := hide ((unhide Kc).below bal)
  have RN := hide ((unhide Rc).below bal)
  clear Kc Rc
  have Kc := KN
  have Rc := RN
  clear KN RN
  have KN := hide ((unhide Ke).below bal)
  have RN := hide ((unhide Re).below bal)
  clear Ke Re
  have Ke := KN
  have Re := RN
  clear KN RN
  have LN := hide ((unhide LR).below bal)
  clear LR
  have LR := LN
  clear LN
  have BN := hide (belows (unhide BX) bal)
  clear BX
  have BX := BN
  clear BN
  have Kf := hide (Blk.new w10 24 #[.int .i64 10, (.slice a10 1 cap10), .int .i64 (-1), .int .i64 (-1), .bool false])
  have Rf := hide (r10.below bal)
  clear bal r10
  have HC : ∀ X : World, RowF X (.slice a10 1 cap10) L10.files → Calls Try.prog 10 #[.agg #[.int .i64 10, (.slice a10 1 cap10), .int .i64 (-1), .int .i64 (-1), .bool false], .string ⟨#[98]⟩] X fun e w' => ∃ v', e = .returned (.tuple #[.agg #[.int .i64 10, v', .int .i64 (-1), .int .i64 (-1), .bool false], .int .i64 0]) ∧ RowF w' v' L11.files ∧ Below X.heap.size X w' := fun X hX => by
    have h := delete_any L10 (.slice a10 1 cap10) ⟨#[98]⟩ X fit10 hX
    rw [l11_is] at h
    exact h.mono (fun e w' ⟨v', h1, h2, _, h3⟩ => ⟨v', h1, h2, h3⟩)
  have HH := hide HC
  clear HC
  go_wp2_with fail
  refine (unhide HH _ (unhide Rf)).mono ?_
  clear HH
  rintro e w11 ⟨v11, rfl, r11, b11⟩
  obtain ⟨a11, cap11, rfl⟩ := r11.form (n := 0) rfl
  have KN := hide ((unhide Kc).below b11)
  have RN := hide ((unhide Rc).below b11)
  clear Kc Rc
  have Kc := KN
  have Rc := RN
  clear KN RN
  have KN := hide ((unhide Ke).below b11)
  have RN := hide ((unhide Re).below b11)
  clear Ke Re
  have Ke := KN
  have Re := RN
  clear KN RN
  have KN := hide ((unhide Kf).below b11)
  have RN := hide ((unhide Rf).below b11)
  clear Kf Rf
  have Kf := KN
  have Rf := RN
  clear KN RN
  have LN := hide ((unhide LR).below b11)
  clear LR
  have LR := LN
  clear LN
  have BN := hide (belows (unhide BX) b11)
  clear BX
  have BX := BN
  clear BN
  clear b11
  have bal : Below w11.heap.size w11 (w11.alloc (Obj.cells #[.int .i64 10, (.slice a11 0 cap11), .int .i64 (-1), .int .i64 (-1), .bool false] 24)) := (Below.refl _ _).alloc (Nat.le_refl _) _
  have KN := hide ((unhide Kc).below bal)
  have RN := hide ((unhide Rc).below bal)
  clear Kc Rc
  have Kc := KN
  have Rc := RN
  clear KN RN
  have KN := hide ((unhide Ke).below bal)
  have RN := hide ((unhide Re).below bal)
  clear Ke Re
  have Ke := KN
  have Re := RN
  clear KN RN
  have KN := hide ((unhide Kf).below bal)
  have RN := hide ((unhide Rf).below bal)
  clear Kf Rf
  have Kf := KN
  have Rf := RN
  clear KN RN
  have LN := hide ((unhide LR).below bal)
  clear LR
  have LR := LN
  clear LN
  have BN := hide (belows (unhide BX) bal)
  clear BX
  have BX := BN
  clear BN
  have Kg := hide (Blk.new w11 24 #[.int .i64 10, (.slice a11 0 cap11), .int .i64 (-1), .int .i64 (-1), .bool false])
  have Rg := hide (r11.below bal)
  clear bal r11
  have HC : ∀ X : World, RowF X (.slice a11 0 cap11) L11.files → Calls Try.prog 27 #[.agg #[.int .i64 10, (.slice a11 0 cap11), .int .i64 (-1), .int .i64 (-1), .bool false], .string ⟨#[98]⟩] X fun e w' => e = .returned (.tuple #[.string ⟨#[]⟩, .int .i64 3]) ∧ Below X.heap.size X w' := fun X hX => by
    have h := read_any L11 (.slice a11 0 cap11) ⟨#[98]⟩ X fit11 hX
    rw [l12_is] at h
    exact h
  have HH := hide HC
  clear HC
  go_wp2_with fail
  refine (unhide HH _ (unhide Rg)).mono ?_
  clear HH
  rintro e w12 ⟨rfl, bX⟩
  have KN := hide ((unhide Kc).below bX)
  have RN := hide ((unhide Rc).below bX)
  clear Kc Rc
  have Kc := KN
  have Rc := RN
  clear KN RN
  have KN := hide ((unhide Ke).below bX)
  have RN := hide ((unhide Re).below bX)
  clear Ke Re
  have Ke := KN
  have Re := RN
  clear KN RN
  have KN := hide ((unhide Kf).below bX)
  have RN := hide ((unhide Rf).below bX)
  clear Kf Rf
  have Kf := KN
  have Rf := RN
  clear KN RN
  have KN := hide ((unhide Kg).below bX)
  have RN := hide ((unhide Rg).below bX)
  clear Kg Rg
  have Kg := KN
  have Rg := RN
  clear KN RN
  have LN := hide ((unhide LR).below bX)
  clear LR
  have LR := LN
  clear LN
  have BN := hide (belows (unhide BX) bX)
  clear BX
  have BX := BN
  clear BN
  clear bX
  have HC : ∀ X : World, RowF X (.slice a8 1 cap8) L8.files → ∀ s, RowS X (.slice (some ⟨s, 0, none⟩) 1 1) [⟨#[49, 50, 51, 52, 53, 54, 55, 56]⟩] → Calls Try.prog 21 #[.agg #[.int .i64 10, (.slice a8 1 cap8), .int .i64 (-1), .int .i64 (-1), .bool false], .string ⟨#[98]⟩, .slice (some ⟨s, 0, none⟩) 1 1] X fun e w' => ∃ v', e = .returned (.tuple #[.agg #[.int .i64 10, v', .int .i64 (-1), .int .i64 (-1), .bool false], .int .i64 8]) ∧ RowF w' v' L8.files ∧ Below X.heap.size X w' := fun X hX s hs => by
    have h := append_any L8 (.slice a8 1 cap8) ⟨#[98]⟩ (some ⟨s, 0, none⟩) 1 1 [⟨#[49, 50, 51, 52, 53, 54, 55, 56]⟩] X fit8 hX hs
    rw [l13_is] at h
    exact h.mono (fun e w' ⟨v', h1, h2, _, h3⟩ => ⟨v', h1, h2, h3⟩)
  have HH := hide HC
  clear HC
  have c0 := (unhide Ke).cell 0
  have c1 := (unhide Ke).cell 1
  have c2 := (unhide Ke).cell 2
  have c3 := (unhide Ke).cell 3
  have c4 := (unhide Ke).cell 4
  simp only [List.getElem?_toArray, List.getElem?_cons_succ, List.getElem?_cons_zero] at c0 c1 c2 c3 c4
  have bal : Below w12.heap.size w12 (w12.alloc (Obj.cells #[.string ⟨#[49, 50, 51, 52, 53, 54, 55, 56]⟩] 9)) := (Below.refl _ _).alloc (Nat.le_refl _) _
  have RY := hide ((unhide Re).below bal)
  have SY : Hid (RowS (w12.alloc (Obj.cells #[.string ⟨#[49, 50, 51, 52, 53, 54, 55, 56]⟩] 9)) (.slice (some ⟨w12.heap.size, 0, none⟩) 1 1) [⟨#[49, 50, 51, 52, 53, 54, 55, 56]⟩]) := hide (rowS_new w12 w12.heap.size rfl [⟨#[49, 50, 51, 52, 53, 54, 55, 56]⟩] 1 rfl (by decide) (by decide))
  have BAL := hide bal
  clear bal
  go_wp2_with fail
  clear c0 c1 c2 c3 c4
  refine (unhide HH _ (unhide RY) _ (unhide SY)).mono ?_
  clear RY SY HH
  rintro e w13 ⟨v13, rfl, r13, b13⟩
  obtain ⟨a13, cap13, rfl⟩ := r13.form (n := 1) rfl
  have bX := belows (unhide BAL) b13
  have KN := hide ((unhide Kc).below bX)
  have RN := hide ((unhide Rc).below bX)
  clear Kc Rc
  have Kc := KN
  have Rc := RN
  clear KN RN
  have KN := hide ((unhide Ke).below bX)
  have RN := hide ((unhide Re).below bX)
  clear Ke Re
  have Ke := KN
  have Re := RN
  clear KN RN
  have KN := hide ((unhide Kf).below bX)
  have RN := hide ((unhide Rf).below bX)
  clear Kf Rf
  have Kf := KN
  have Rf := RN
  clear KN RN
  have KN := hide ((unhide Kg).below bX)
  have RN := hide ((unhide Rg).below bX)
  clear Kg Rg
  have Kg := KN
  have Rg := RN
  clear KN RN
  have LN := hide ((unhide LR).below bX)
  clear LR
  have LR := LN
  clear LN
  have BN := hide (belows (unhide BX) bX)
  clear BX
  have BX := BN
  clear BN
  clear bX BAL b13
  have bal : Below w13.heap.size w13 (w13.alloc (Obj.cells #[.int .i64 10, (.slice a13 1 cap13), .int .i64 (-1), .int .i64 (-1), .bool false] 24)) := (Below.refl _ _).alloc (Nat.le_refl _) _
  have KN := hide ((unhide Kc).below bal)
  have RN := hide ((unhide Rc).below bal)
  clear Kc Rc
  have Kc := KN
  have Rc := RN
  clear KN RN
  have KN := hide ((unhide Ke).below bal)
  have RN := hide ((unhide Re).below bal)
  clear Ke Re
  have Ke := KN
  have Re := RN
  clear KN RN
  have KN := hide ((unhide Kf).below bal)
  have RN := hide ((unhide Rf).below bal)
  clear Kf Rf
  have Kf := KN
  have Rf := RN
  clear KN RN
  have KN := hide ((unhide Kg).below bal)
  have RN := hide ((unhide Rg).below bal)
  clear Kg Rg
  have Kg := KN
  have Rg := RN
  clear KN RN
  have LN := hide ((unhide LR).below bal)
  clear LR
  have LR := LN
  clear LN
  have BN := hide (belows (unhide BX) bal)
  clear BX
  have BX := BN
  clear BN
  have Kh := hide (Blk.new w13 24 #[.int .i64 10, (.slice a13 1 cap13), .int .i64 (-1), .int .i64 (-1), .bool false])
  have Rh := hide (r13.below bal)
  clear bal r13
  have bal : Below (w13.alloc (Obj.cells #[.int .i64 10, (.slice a13 1 cap13), .int .i64 (-1), .int .i64 (-1), .bool false] 24)).heap.size (w13.alloc (Obj.cells #[.int .i64 10, (.slice a13 1 cap13), .int .i64 (-1), .int .i64 (-1), .bool false] 24)) ((w13.alloc (Obj.cells #[.int .i64 10, (.slice a13 1 cap13), .int .i64 (-1), .int .i64 (-1), .bool false] 24)).alloc (Obj.cells #[.string ⟨#[98]⟩] 9)) := (Below.refl _ _).alloc (Nat.le_refl _) _
  have SY : Hid (RowS ((w13.alloc (Obj.cells #[.int .i64 10, (.slice a13 1 cap13), .int .i64 (-1), .int .i64 (-1), .bool false] 24)).alloc (Obj.cells #[.string ⟨#[98]⟩] 9)) (.slice (some ⟨w13.heap.size + 1, 0, none⟩) 1 1) [⟨#[98]⟩]) := hide (rowS_new (w13.alloc (Obj.cells #[.int .i64 10, (.slice a13 1 cap13), .int .i64 (-1), .int .i64 (-1), .bool false] 24)) (w13.heap.size + 1) (by simp) [⟨#[98]⟩] 1 rfl (by decide) (by decide))
  have KN := hide ((unhide Kc).below bal)
  have RN := hide ((unhide Rc).below bal)
  clear Kc Rc
  have Kc := KN
  have Rc := RN
  clear KN RN
  have KN := hide ((unhide Ke).below bal)
  have RN := hide ((unhide Re).below bal)
  clear Ke Re
  have Ke := KN
  have Re := RN
  clear KN RN
  have KN := hide ((unhide Kf).below bal)
  have RN := hide ((unhide Rf).below bal)
  clear Kf Rf
  have Kf := KN
  have Rf := RN
  clear KN RN
  have KN := hide ((unhide Kg).below bal)
  have RN := hide ((unhide Rg).below bal)
  clear Kg Rg
  have Kg := KN
  have Rg := RN
  clear KN RN
  have KN := hide ((unhide Kh).below bal)
  have RN := hide ((unhide Rh).below bal)
  clear Kh Rh
  have Kh := KN
  have Rh := RN
  clear KN RN
  have LN := hide ((unhide LR).below bal)
  clear LR
  have LR := LN
  clear LN
  have BN := hide (belows (unhide BX) bal)
  clear BX
  have BX := BN
  clear BN
  have HSM := hide (sameS_any _ _ _ _ _ (unhide LR) (unhide SY))
  have hdt : decide (([⟨#[98]⟩] : List ByteArray) = [⟨#[98]⟩]) = true := by decide
  rw [hdt] at HSM
  have HCK : Hid (∀ X : World, RowF X (.slice a10 1 cap10) L10.files → Calls Try.prog 19 #[.agg #[.int .i64 10, (.slice a10 1 cap10), .int .i64 (-1), .int .i64 (-1), .bool false]] X fun e w' => e = .returned (.int .i64 0) ∧ Below X.heap.size X w') := hide (fun X hX => by
    have h := check_any L10 (.slice a10 1 cap10) X fit10.1 hX
    rw [l14_is] at h
    exact h)
  clear bal SY hdt
  go_upto_region 14 with (fail)
  apply wp_region_lit
  change wpList _ (List.toArray (_ :: _ :: _ :: _ :: _ :: _ :: _ :: _ :: _ :: _ :: _ :: _ :: _ :: _ :: _ :: _ :: _ :: _ :: _ :: _ :: _ :: _ :: _ :: _ :: _ :: _ :: _ :: _ :: _ :: _ :: _ :: _ :: _ :: _ :: _ :: _ :: _ :: _ :: _ :: _ :: _ :: _ :: _ :: _ :: _ :: _ :: _ :: _ :: _ :: _ :: _ :: _ :: _ :: _ :: _ :: _ :: _ :: _ :: _ :: _ :: _ :: _ :: _ :: _ :: _ :: _ :: _ :: _ :: _ :: _ :: _ :: _ :: _ :: _ :: _ :: _ :: _ :: _ :: _ :: [])) _ (_ :: _ :: _ :: _ :: _ :: _ :: _ :: _ :: _ :: _ :: _ :: _ :: _ :: _ :: _ :: _ :: _ :: _ :: _ :: _ :: _ :: _ :: _ :: _ :: _ :: _ :: _ :: _ :: _ :: _ :: _ :: _ :: _ :: _ :: _ :: _ :: _ :: _ :: _ :: _ :: _ :: _ :: _ :: _ :: _ :: _ :: _ :: _ :: _ :: _ :: _ :: _ :: _ :: _ :: _ :: _ :: _ :: _ :: _ :: _ :: _ :: _ :: _ :: _ :: _ :: _ :: _ :: _ :: _ :: _ :: _ :: _ :: _ :: _ :: _ :: _ :: _ :: _ :: _ :: []) _ _
  go_wp2_with fail
  refine (unhide HSM).mono ?_
  rintro e w14 ⟨rfl, bX⟩
  have KN := hide ((unhide Kc).below bX)
  have RN := hide ((unhide Rc).below bX)
  clear Kc Rc
  have Kc := KN
  have Rc := RN
  clear KN RN
  have KN := hide ((unhide Ke).below bX)
  have RN := hide ((unhide Re).below bX)
  clear Ke Re
  have Ke := KN
  have Re := RN
  clear KN RN
  have KN := hide ((unhide Kf).below bX)
  have RN := hide ((unhide Rf).below bX)
  clear Kf Rf
  have Kf := KN
  have Rf := RN
  clear KN RN
  have KN := hide ((unhide Kg).below bX)
  have RN := hide ((unhide Rg).below bX)
  clear Kg Rg
  have Kg := KN
  have Rg := RN
  clear KN RN
  have KN := hide ((unhide Kh).below bX)
  have RN := hide ((unhide Rh).below bX)
  clear Kh Rh
  have Kh := KN
  have Rh := RN
  clear KN RN
  have LN := hide ((unhide LR).below bX)
  clear LR
  have LR := LN
  clear LN
  have BN := hide (belows (unhide BX) bX)
  clear BX
  have BX := BN
  clear BN
  clear bX HSM
  have c0 := (unhide Kf).cell 0
  have c1 := (unhide Kf).cell 1
  have c2 := (unhide Kf).cell 2
  have c3 := (unhide Kf).cell 3
  have c4 := (unhide Kf).cell 4
  simp only [List.getElem?_toArray, List.getElem?_cons_succ, List.getElem?_cons_zero] at c0 c1 c2 c3 c4
  obtain ⟨fb, fo, hfa, y1⟩ : ∃ fb fo, a10 = some ⟨fb, fo, none⟩ ∧ w14.cell? ⟨fb, fo + 1, none⟩ = some (.string ⟨#[97]⟩) := by
    obtain ⟨a, cap, hv, _, _, hc⟩ := unhide Rf
    rcases hc with h0 | ⟨b, off, rfl, _, hcl⟩
    · simp [L10] at h0
    · injection hv with e1
      exact ⟨b, off, e1, hcl 1 _ rfl⟩
  subst hfa
  go_wp2_with fail
  refine (unhide HCK _ (unhide Rf)).mono ?_
  rintro e w15 ⟨rfl, bX⟩
  have BZ := hide (belows (unhide BX) bX)
  clear bX
  go_wp2
  go_ret
  exact ⟨rfl, unhide BZ⟩
end Go.Proofs.Ytmfkhbofmaonkaa

/-
  Two files are compared, over this seat's program.
-/
set_option linter.unusedVariables false
set_option linter.unusedSimpArgs false
namespace Go.Proofs.Ytmfkhbofmaonkaa
open Go.RowKit Go.Proofs.Dsk

theorem held_file : Try.prog.stoodInHeld 56 = false := by kernel_rfl
theorem guard_file : Try.prog.eqGuardType Try.prog.depth 56 = false := by kernel_rfl
theorem fields_file : Try.prog.underlying 56 = some (.struct (Try.prog.fieldsOf 56)) := by
  unfold Program.fieldsOf; rw [Try.underlying56]
set_option maxHeartbeats 1000000 in
set_option maxRecDepth 100000 in
theorem neqF (n n' d d' : ByteArray) (s s' : Int) (W : World) :
    (binOp .neq 56 (.agg #[.string n, .string d, .int .i64 s]) (.agg #[.string n', .string d', .int .i64 s'])).run Try.prog W = .ok (.bool (!decide ((⟨n, d, s⟩ : File) = ⟨n', d', s'⟩))) W := by
  rw [run_neq_struct, run_equalIn_struct W 9999 _ _ _ fields_file held_file]
  simp only [Program.fieldsOf, Try.underlying56]
  have hd : decide ((⟨n, d, s⟩ : File) = ⟨n', d', s'⟩) = (decide (n = n') && (decide (d = d') && decide (s = s'))) := by
    by_cases h1 : n = n' <;> by_cases h2 : d = d' <;> by_cases h3 : s = s' <;> simp [h1, h2, h3]
  have hs : (s == s') = decide (s = s') := rfl
  rw [hd]
  have b1 := beqS n n'
  have b2 := beqS d d'
  cases h1 : decide (n = n') <;> cases h2 : decide (d = d') <;> cases h3 : decide (s = s') <;> rw [h1] at b1 <;> rw [h2] at b2 <;> rw [h3] at hs <;> go_simp
end Go.Proofs.Ytmfkhbofmaonkaa

/-
  What missiveref04.Same does, over this seat's program: whether two file systems are one.
-/
set_option linter.unusedVariables false
set_option linter.unusedSimpArgs false
namespace Go.Proofs.Ytmfkhbofmaonkaa
open Go.RowKit Go.Proofs.Dsk

theorem takeF_next {l r : List File} {k : Nat} (hl : k < l.length) (hr : k < r.length) : l.take (k + 1) = r.take (k + 1) ↔ l.take k = r.take k ∧ l[k] = r[k] := by
  rw [List.take_succ_eq_append_getElem hl, List.take_succ_eq_append_getElem hr]
  constructor
  · intro h
    have := List.append_inj' h rfl
    exact ⟨this.1, by simpa using this.2⟩
  · rintro ⟨h1, h2⟩
    rw [h1, h2]

set_option maxHeartbeats 4000000 in
set_option maxRecDepth 100000 in
theorem refSame_any (d d' : Fs) (v v' : Value) (w : World) (h : RowF w v d.files) (h' : RowF w v' d'.files) :
    Calls Try.prog 17 #[fsV d v, fsV d' v'] w fun e w' => e = .returned (.bool (decide (d = d'))) ∧ Below w.heap.size w w' := by
  obtain ⟨a, cap, hv, h63, _, hc⟩ := h
  obtain ⟨a', cap', hv', h63', _, hc'⟩ := h'
  subst hv hv'
  obtain ⟨room, l, fuse, fault, down⟩ := d
  obtain ⟨room', l', fuse', fault', down'⟩ := d'
  simp only [fsV] at *
  by_cases hh : room = room' ∧ fuse = fuse' ∧ fault = fault' ∧ down = down' ∧ l.length = l'.length
  · obtain ⟨rfl, rfl, rfl, rfl, hll⟩ := hh
    have hdec : decide ((⟨room, l, fuse, fault, down⟩ : Fs) = ⟨room, l', fuse, fault, down⟩) = decide (l = l') := by
      by_cases e : l = l'
      · subst e; simp
      · rw [decide_eq_false e, decide_eq_false (fun h => e (by injection h))]
    rw [hdec]
    clear hdec
    rw [← hll] at h63' ⊢
    obtain ⟨N, hN⟩ : ∃ N, l.length = N := ⟨_, rfl⟩
    rw [hN] at h63 h63' ⊢
    have HC := hide hc
    have HC' := hide hc'
    have HN := hide hN
    have HLL := hide hll
    have e1 : (room == room) = true := by simp
    have e2 : (fuse == fuse) = true := by simp
    have e3 : (fault == fault) = true := by simp
    have e4 : (down == down) = true := by simp
    have e5 : ((N : Int) == (N : Int)) = true := by simp
    have hb0 : Below w.heap.size w ((w.alloc (Obj.cells #[.int .i64 room, .slice a N cap, .int .i64 fuse, .int .i64 fault, .bool down] 24)).alloc (Obj.cells #[.int .i64 room, .slice a' N cap', .int .i64 fuse, .int .i64 fault, .bool down] 24)) := ((Below.refl _ w).alloc (Nat.le_refl _) _).alloc (by simp) _
    have k0 := (Blk.new w 24 #[.int .i64 room, .slice a N cap, .int .i64 fuse, .int .i64 fault, .bool down]).below ((Below.refl _ _).alloc (Nat.le_refl _) (Obj.cells #[.int .i64 room, .slice a' N cap', .int .i64 fuse, .int .i64 fault, .bool down] 24))
    have k1 := Blk.new (w.alloc (Obj.cells #[.int .i64 room, .slice a N cap, .int .i64 fuse, .int .i64 fault, .bool down] 24)) 24 #[.int .i64 room, .slice a' N cap', .int .i64 fuse, .int .i64 fault, .bool down]
    simp only [World.size_alloc] at k1
    have K0 := hide k0
    have K1 := hide k1
    clear hc hc' hN hll k0 k1
    go_enter Try.func17, Try.ntmps17
    go_wp2
    generalize hW : (w.alloc (Obj.cells #[.int .i64 room, .slice a N cap, .int .i64 fuse, .int .i64 fault, .bool down] 24)).alloc (Obj.cells #[.int .i64 room, .slice a' N cap', .int .i64 fuse, .int .i64 fault, .bool down] 24) = W at *
    clear hW
    have HB0 := hide hb0
    clear hb0
    go_loopw [5, 44] (fun x z wr => ∃ k : Nat, z = .int .i64 k ∧ k ≤ N ∧ Hid (l.take k = l'.take k) ∧ Hid (Below W.heap.size W wr)) (fun _ z _ => N - (intOf z).toNat)
    case atStart => exact ⟨0, rfl, Nat.zero_le _, hide rfl, hide (Below.refl _ _)⟩
    case round =>
      obtain ⟨k, rfl, hk, HT, HBQ⟩ := hrel
      have HBE := hide (belows (unhide HB0) (unhide HBQ))
      by_cases hlt : k < N
      · have hlt1 : (k : Int) < (N : Int) := by omega
        have hkl : k < l.length := by have := unhide HN; omega
        have hkr : k < l'.length := by have := unhide HN; have := unhide HLL; omega
        obtain ⟨b, off, rfl, hb, hcl⟩ : ∃ b off, a = some ⟨b, off, none⟩ ∧ b < w.heap.size ∧ ∀ j u, (flatF l)[j]? = some u → w.cell? ⟨b, off + j, none⟩ = some u := by
          rcases unhide HC with h0 | h0
          · rw [h0] at hkl; simp at hkl
          · exact h0
        obtain ⟨b', off', rfl, hb', hcl'⟩ : ∃ b off, a' = some ⟨b, off, none⟩ ∧ b < w.heap.size ∧ ∀ j u, (flatF l')[j]? = some u → w.cell? ⟨b, off + j, none⟩ = some u := by
          rcases unhide HC' with h0 | h0
          · rw [h0] at hkr; simp at hkr
          · exact h0
        obtain ⟨p0, p1, p2⟩ := row_cells hcl hkl
        obtain ⟨r0, r1, r2⟩ := row_cells hcl' hkr
        have y0 : wr.cell? ⟨b, off + k * 3, none⟩ = some (.string l[k].name) := ((unhide HBE).cell (p := ⟨b, off + k * 3, none⟩) hb).trans p0
        have y1 : wr.cell? ⟨b, off + k * 3 + 1, none⟩ = some (.string l[k].data) := ((unhide HBE).cell (p := ⟨b, off + k * 3 + 1, none⟩) hb).trans p1
        have y2 : wr.cell? ⟨b, off + k * 3 + 2, none⟩ = some (.int .i64 l[k].synced) := ((unhide HBE).cell (p := ⟨b, off + k * 3 + 2, none⟩) hb).trans p2
        have u0 : wr.cell? ⟨b', off' + k * 3, none⟩ = some (.string l'[k].name) := ((unhide HBE).cell (p := ⟨b', off' + k * 3, none⟩) hb').trans r0
        have u1 : wr.cell? ⟨b', off' + k * 3 + 1, none⟩ = some (.string l'[k].data) := ((unhide HBE).cell (p := ⟨b', off' + k * 3 + 1, none⟩) hb').trans r1
        have u2 : wr.cell? ⟨b', off' + k * 3 + 2, none⟩ = some (.int .i64 l'[k].synced) := ((unhide HBE).cell (p := ⟨b', off' + k * 3 + 2, none⟩) hb').trans r2
        have c1 := ((unhide K0).below (unhide HBQ)).cell 1
        have c2 := ((unhide K1).below (unhide HBQ)).cell 1
        simp only [List.getElem?_toArray, List.getElem?_cons_succ, List.getElem?_cons_zero] at c1 c2
        clear p0 p1 p2 r0 r1 r2 hcl hcl'
        have hgf := guard_file
        have hnx := takeF_next hkl hkr
        have hnq := fun X => neqF l[k].name l'[k].name l[k].data l'[k].data l[k].synced l'[k].synced X
        by_cases he : l[k] = l'[k]
        · have HN2 := hide (hnx.2 ⟨unhide HT, he⟩)
          have hde : decide ((⟨l[k].name, l[k].data, l[k].synced⟩ : File) = ⟨l'[k].name, l'[k].data, l'[k].synced⟩) = true := decide_eq_true he
          rw [hde] at hnq
          clear hnx he hde
          generalize l[k].name = n0 at y0 hnq
          generalize l[k].data = d0 at y1 hnq
          generalize l[k].synced = s0 at y2 hnq
          generalize l'[k].name = n1 at u0 hnq
          generalize l'[k].data = d1 at u1 hnq
          generalize l'[k].synced = s1 at u2 hnq
          go_wp2
          go_quiet (fail)
          go_wp2
          exact ⟨⟨k + 1, by go_num, by omega, HN2, hide (below_drN (unhide HBQ) _)⟩, by simp [intOf]; omega⟩
        · have hde : decide ((⟨l[k].name, l[k].data, l[k].synced⟩ : File) = ⟨l'[k].name, l'[k].data, l'[k].synced⟩) = false := decide_eq_false he
          rw [hde] at hnq
          have hfin : decide (l = l') = false := by
            rw [decide_eq_false_iff_not]
            intro h
            subst h
            exact he rfl
          have HF := hide hfin
          clear hnx he hde hfin
          generalize l[k].name = n0 at y0 hnq
          generalize l[k].data = d0 at y1 hnq
          generalize l[k].synced = s0 at y2 hnq
          generalize l'[k].name = n1 at u0 hnq
          generalize l'[k].data = d1 at u1 hnq
          generalize l'[k].synced = s1 at u2 hnq
          go_wp2
          go_quiet (fail)
          go_wp2
          go_ret
          exact ⟨by rw [unhide HF]; rfl, below_drN (unhide HBE) _⟩
      · have hke : k = N := by omega
        have hall : l = l' := by
          have h1 := unhide HT
          rwa [List.take_of_length_le (by have := unhide HN; omega), List.take_of_length_le (by have := unhide HN; have := unhide HLL; omega)] at h1
        have hfin : decide (l = l') = true := decide_eq_true hall
        have HF := hide hfin
        clear hfin hall
        go_wp2
        go_ret
        exact ⟨by rw [unhide HF]; rfl, unhide HBE⟩
  · have hfin : decide ((⟨room, l, fuse, fault, down⟩ : Fs) = ⟨room', l', fuse', fault', down'⟩) = false := by
      rw [decide_eq_false_iff_not]
      intro h
      injection h with h1 h2 h3 h4 h5
      exact hh ⟨h1, h3, h4, h5, by rw [h2]⟩
    rw [hfin]
    have BZ : Hid (Below w.heap.size w ((w.alloc (Obj.cells #[.int .i64 room, .slice a l.length cap, .int .i64 fuse, .int .i64 fault, .bool down] 24)).alloc (Obj.cells #[.int .i64 room', .slice a' l'.length cap', .int .i64 fuse', .int .i64 fault', .bool down'] 24))) := hide (((Below.refl _ w).alloc (Nat.le_refl _) _).alloc (by simp) _)
    clear hfin hc hc'
    generalize l.length = n at *
    generalize l'.length = n' at *
    by_cases q1 : room = room'
    · by_cases q2 : fuse = fuse'
      · by_cases q3 : fault = fault'
        · by_cases q4 : down = down'
          · have q5 : ¬ n = n' := fun e => hh ⟨q1, q2, q3, q4, e⟩
            have e5 : ((n : Int) == (n' : Int)) = false := by simp; omega
            subst q1 q2 q3 q4
            have e1 : (room == room) = true := by simp
            have e2 : (fuse == fuse) = true := by simp
            have e3 : (fault == fault) = true := by simp
            have e4 : (down == down) = true := by simp
            clear hh
            go_enter Try.func17, Try.ntmps17
            go_wp2
            go_ret
            exact ⟨rfl, unhide BZ⟩
          · have e4 : (down == down') = false := by simpa using q4
            subst q1 q2 q3
            have e1 : (room == room) = true := by simp
            have e2 : (fuse == fuse) = true := by simp
            have e3 : (fault == fault) = true := by simp
            clear hh
            go_enter Try.func17, Try.ntmps17
            go_wp2
            go_ret
            exact ⟨rfl, unhide BZ⟩
        · have e3 : (fault == fault') = false := by simpa using q3
          subst q1 q2
          have e1 : (room == room) = true := by simp
          have e2 : (fuse == fuse) = true := by simp
          clear hh
          go_enter Try.func17, Try.ntmps17
          go_wp2
          go_ret
          exact ⟨rfl, unhide BZ⟩
      · have e2 : (fuse == fuse') = false := by simpa using q2
        subst q1
        have e1 : (room == room) = true := by simp
        clear hh
        go_enter Try.func17, Try.ntmps17
        go_wp2
        go_ret
        exact ⟨rfl, unhide BZ⟩
    · have e1 : (room == room') = false := by simpa using q1
      clear hh
      go_enter Try.func17, Try.ntmps17
      go_wp2
      go_ret
      exact ⟨rfl, unhide BZ⟩
end Go.Proofs.Ytmfkhbofmaonkaa

/-
  What missivelaw04.DiskBytes does, over this seat's program: it answers true.
-/
set_option linter.unusedVariables false
set_option linter.unusedSimpArgs false
namespace Go.Proofs.Ytmfkhbofmaonkaa
open Go.RowKit Go.Proofs.Dsk

theorem refSame_me (d : Fs) (v v' : Value) (w : World) (h : RowF w v d.files) (h' : RowF w v' d.files) :
    Calls Try.prog 17 #[fsV d v, fsV d v'] w fun e w' => e = .returned (.bool true) ∧ Below w.heap.size w w' := by
  have := refSame_any d d v v' w h h'
  rw [decide_eq_true rfl] at this
  exact this
set_option maxHeartbeats 16000000 in
set_option maxRecDepth 100000 in
theorem diskBytes_walk (d : Fs) (v : Value) (name : ByteArray) (sa : Option Addr) (sn sc : Nat) (data : List ByteArray) (n : Int) (vk : Value) (keep : List Int) (w : World) (hfit : FitAll d) (h : RowF w v d.files) (hnt : NeatF v) (hl : d.files.length ≤ 1048576) (hrow : RowS w (.slice sa sn sc) data) (hkp : RowI w vk keep) (hn1 : -9223372036854775808 ≤ n) (hn2 : n ≤ 9223372036854775807) :
    Calls Try.prog 4 #[fsV d v, .string name, .slice sa sn sc, .int .i64 n, vk] w fun e w' => e = .returned (.bool true) ∧ Below w.heap.size w w' := by
  have HCP := hide (fun (X : World) (hX : RowF X v d.files) => refCopy_any d v X hX hnt hl)
  have HLV := hide (fun X => lives_any X)
  have H1 := hide (fun (vv : Value) (X : World) (hX : RowF X vv d.files) (hS : RowS X (.slice sa sn sc) data) => append_any d vv name sa sn sc data X hfit hX hS)
  have G1 := hide (fun (X : World) (hX : RowF X v d.files) (hS : RowS X (.slice sa sn sc) data) => refAppend_any d v name sa sn sc data X hfit hX hnt hl hS)
  generalize appendR d name data = r1 at H1 G1
  obtain ⟨e1, z1⟩ := r1
  simp only at H1 G1
  have H2 := hide (fun (vv : Value) (X : World) (hX : RowF X vv d.files) => sync_any d vv name X hfit hX)
  have G2 := hide (fun (X : World) (hX : RowF X v d.files) => refSync_any d v name X hfit hX hnt hl)
  generalize syncR d name = r2 at H2 G2
  obtain ⟨e2, z2⟩ := r2
  simp only at H2 G2
  have H3 := hide (fun (vv : Value) (X : World) (hX : RowF X vv d.files) => cut_any d vv name n X hfit hX hn1 hn2)
  have G3 := hide (fun (X : World) (hX : RowF X v d.files) => refCut_any d v name n X hfit hX hnt hl hn1 hn2)
  generalize cutR d name n = r3 at H3 G3
  obtain ⟨e3, z3⟩ := r3
  simp only at H3 G3
  have H4 := hide (fun (vv : Value) (X : World) (hX : RowF X vv d.files) => read_any d vv name X hfit hX)
  have G4 := hide (fun (X : World) (hX : RowF X v d.files) => refRead_any d v name X hfit hX)
  generalize readR d name = r4 at H4 G4
  obtain ⟨e4, z4⟩ := r4
  simp only at H4 G4
  have H5 := hide (fun (vv : Value) (X : World) (hX : RowF X vv d.files) (hI : RowI X vk keep) => crash_any d vv vk keep X hfit hX hI)
  have G5 := hide (fun (X : World) (hX : RowF X v d.files) (hI : RowI X vk keep) => refCrash_any d v vk keep X hfit hX hnt hl hI)
  generalize crashR d keep = r5 at H5 G5
  obtain ⟨e5, z5⟩ := r5
  simp only at H5 G5
  have hb0 := (Below.refl w.heap.size w).alloc (Nat.le_refl _) (Obj.cells #[.int .i64 d.room, v, .int .i64 d.fuse, .int .i64 d.fault, .bool d.down] 24)
  have k0 := Blk.new w 24 #[.int .i64 d.room, v, .int .i64 d.fuse, .int .i64 d.fault, .bool d.down]
  have HR0 := hide (h.below hb0)
  obtain ⟨a, cap, hv, h63, hff, _⟩ := id h
  subst hv
  obtain ⟨N, hN⟩ : ∃ N, d.files.length = N := ⟨_, rfl⟩
  have HN := hide hN
  have HFF := hide hff
  try rw [hN] at hl
  simp only [hN] at k0 HR0 h63 hb0 HCP H1 G1 H2 G2 H3 G3 H4 G4 H5 G5 ⊢
  have Rs := hide (hrow.below hb0)
  have Rk := hide (hkp.below hb0)
  have Kd := hide k0
  have Rd := HR0
  have BX := hide hb0
  clear k0 hb0 hN h hnt hfit HR0 hff
  simp only [fsV] at HCP H1 G1 H2 G2 H3 G3 H4 G4 H5 G5 ⊢
  clear hrow hkp
  go_enter Try.func4, Try.ntmps4
  have c0 := (unhide Kd).cell 0
  have c1 := (unhide Kd).cell 1
  have c2 := (unhide Kd).cell 2
  have c3 := (unhide Kd).cell 3
  have c4 := (unhide Kd).cell 4
  simp only [List.getElem?_toArray, List.getElem?_cons_succ, List.getElem?_cons_zero] at c0 c1 c2 c3 c4
  go_wp2_with fail
  clear c0 c1 c2 c3 c4
  refine (unhide HCP _ (unhide Rd)).mono ?_
  rintro e wg ⟨vg, rfl, own, bX⟩
  obtain ⟨ag, capg, rfl⟩ := own_form own
  have rg := rowF_of_own (l := d.files) (by rw [unhide HN]; exact own) (by have := unhide HN; omega) (unhide HFF)
  have KN := hide ((unhide Kd).below bX)
  clear Kd
  have Kd := KN
  clear KN
  have RN := hide ((unhide Rd).below bX)
  clear Rd
  have Rd := RN
  clear RN
  have RN := hide ((unhide Rs).below bX)
  clear Rs
  have Rs := RN
  clear RN
  have RN := hide ((unhide Rk).below bX)
  clear Rk
  have Rk := RN
  clear RN
  have BN := hide (belows (unhide BX) bX)
  clear BX
  have BX := BN
  clear BN
  clear bX own HCP
  have bal : Below wg.heap.size wg (wg.alloc (Obj.cells #[.int .i64 d.room, .slice ag N capg, .int .i64 d.fuse, .int .i64 d.fault, .bool d.down] 24)) := (Below.refl _ _).alloc (Nat.le_refl _) _
  have KN := hide ((unhide Kd).below bal)
  clear Kd
  have Kd := KN
  clear KN
  have RN := hide ((unhide Rd).below bal)
  clear Rd
  have Rd := RN
  clear RN
  have RN := hide ((unhide Rs).below bal)
  clear Rs
  have Rs := RN
  clear RN
  have RN := hide ((unhide Rk).below bal)
  clear Rk
  have Rk := RN
  clear RN
  have BN := hide (belows (unhide BX) bal)
  clear BX
  have BX := BN
  clear BN
  have Kg := hide (Blk.new wg 24 #[.int .i64 d.room, .slice ag N capg, .int .i64 d.fuse, .int .i64 d.fault, .bool d.down])
  have Rg := hide (rg.below bal)
  clear bal rg
  have c0 := (unhide Kg).cell 0
  have c1 := (unhide Kg).cell 1
  have c2 := (unhide Kg).cell 2
  have c3 := (unhide Kg).cell 3
  have c4 := (unhide Kg).cell 4
  simp only [List.getElem?_toArray, List.getElem?_cons_succ, List.getElem?_cons_zero] at c0 c1 c2 c3 c4
  go_wp2_with fail
  clear c0 c1 c2 c3 c4
  refine (unhide H1 _ _ (unhide Rg) (unhide Rs)).mono ?_
  rintro e w1 ⟨va, rfl, ra, _, bX⟩
  obtain ⟨aa, capa, hva, _⟩ := id ra
  subst hva
  have KN := hide ((unhide Kd).below bX)
  clear Kd
  have Kd := KN
  clear KN
  have RN := hide ((unhide Rd).below bX)
  clear Rd
  have Rd := RN
  clear RN
  have RN := hide ((unhide Rs).below bX)
  clear Rs
  have Rs := RN
  clear RN
  have RN := hide ((unhide Rk).below bX)
  clear Rk
  have Rk := RN
  clear RN
  have KN := hide ((unhide Kg).below bX)
  clear Kg
  have Kg := KN
  clear KN
  have RN := hide ((unhide Rg).below bX)
  clear Rg
  have Rg := RN
  clear RN
  have BN := hide (belows (unhide BX) bX)
  clear BX
  have BX := BN
  clear BN
  clear bX H1
  have bal : Below w1.heap.size w1 (w1.alloc (Obj.cells #[.int .i64 e1.room, .slice aa e1.files.length capa, .int .i64 e1.fuse, .int .i64 e1.fault, .bool e1.down] 24)) := (Below.refl _ _).alloc (Nat.le_refl _) _
  have KN := hide ((unhide Kd).below bal)
  clear Kd
  have Kd := KN
  clear KN
  have RN := hide ((unhide Rd).below bal)
  clear Rd
  have Rd := RN
  clear RN
  have RN := hide ((unhide Rs).below bal)
  clear Rs
  have Rs := RN
  clear RN
  have RN := hide ((unhide Rk).below bal)
  clear Rk
  have Rk := RN
  clear RN
  have KN := hide ((unhide Kg).below bal)
  clear Kg
  have Kg := KN
  clear KN
  have RN := hide ((unhide Rg).below bal)
  clear Rg
  have Rg := RN
  clear RN
  have BN := hide (belows (unhide BX) bal)
  clear BX
  have BX := BN
  clear BN
  have Ka := hide (Blk.new w1 24 #[.int .i64 e1.room, .slice aa e1.files.length capa, .int .i64 e1.fuse, .int .i64 e1.fault, .bool e1.down])
  have Ra := hide (ra.below bal)
  clear bal ra
  have c0 := (unhide Kd).cell 0
  have c1 := (unhide Kd).cell 1
  have c2 := (unhide Kd).cell 2
  have c3 := (unhide Kd).cell 3
  have c4 := (unhide Kd).cell 4
  simp only [List.getElem?_toArray, List.getElem?_cons_succ, List.getElem?_cons_zero] at c0 c1 c2 c3 c4
  go_wp2_with fail
  clear c0 c1 c2 c3 c4
  refine (unhide G1 _ (unhide Rd) (unhide Rs)).mono ?_
  rintro e w2 ⟨vb, rfl, rb, bX⟩
  obtain ⟨ab, capb, hvb, _⟩ := id rb
  subst hvb
  have KN := hide ((unhide Kd).below bX)
  clear Kd
  have Kd := KN
  clear KN
  have RN := hide ((unhide Rd).below bX)
  clear Rd
  have Rd := RN
  clear RN
  have RN := hide ((unhide Rs).below bX)
  clear Rs
  have Rs := RN
  clear RN
  have RN := hide ((unhide Rk).below bX)
  clear Rk
  have Rk := RN
  clear RN
  have KN := hide ((unhide Kg).below bX)
  clear Kg
  have Kg := KN
  clear KN
  have RN := hide ((unhide Rg).below bX)
  clear Rg
  have Rg := RN
  clear RN
  have KN := hide ((unhide Ka).below bX)
  clear Ka
  have Ka := KN
  clear KN
  have RN := hide ((unhide Ra).below bX)
  clear Ra
  have Ra := RN
  clear RN
  have BN := hide (belows (unhide BX) bX)
  clear BX
  have BX := BN
  clear BN
  clear bX G1
  have bal : Below w2.heap.size w2 (w2.alloc (Obj.cells #[.int .i64 e1.room, .slice ab e1.files.length capb, .int .i64 e1.fuse, .int .i64 e1.fault, .bool e1.down] 24)) := (Below.refl _ _).alloc (Nat.le_refl _) _
  have KN := hide ((unhide Kd).below bal)
  clear Kd
  have Kd := KN
  clear KN
  have RN := hide ((unhide Rd).below bal)
  clear Rd
  have Rd := RN
  clear RN
  have RN := hide ((unhide Rs).below bal)
  clear Rs
  have Rs := RN
  clear RN
  have RN := hide ((unhide Rk).below bal)
  clear Rk
  have Rk := RN
  clear RN
  have KN := hide ((unhide Kg).below bal)
  clear Kg
  have Kg := KN
  clear KN
  have RN := hide ((unhide Rg).below bal)
  clear Rg
  have Rg := RN
  clear RN
  have KN := hide ((unhide Ka).below bal)
  clear Ka
  have Ka := KN
  clear KN
  have RN := hide ((unhide Ra).below bal)
  clear Ra
  have Ra := RN
  clear RN
  have BN := hide (belows (unhide BX) bal)
  clear BX
  have BX := BN
  clear BN
  have Kb := hide (Blk.new w2 24 #[.int .i64 e1.room, .slice ab e1.files.length capb, .int .i64 e1.fuse, .int .i64 e1.fault, .bool e1.down])
  have Rb := hide (rb.below bal)
  clear bal rb
  have c0 := (unhide Kg).cell 0
  have c1 := (unhide Kg).cell 1
  have c2 := (unhide Kg).cell 2
  have c3 := (unhide Kg).cell 3
  have c4 := (unhide Kg).cell 4
  simp only [List.getElem?_toArray, List.getElem?_cons_succ, List.getElem?_cons_zero] at c0 c1 c2 c3 c4
  go_wp2_with fail
  clear c0 c1 c2 c3 c4
  refine (unhide H2 _ _ (unhide Rg)).mono ?_
  rintro e w3 ⟨vc, rfl, rc, _, bX⟩
  obtain ⟨ac, capc, hvc, _⟩ := id rc
  subst hvc
  have KN := hide ((unhide Kd).below bX)
  clear Kd
  have Kd := KN
  clear KN
  have RN := hide ((unhide Rd).below bX)
  clear Rd
  have Rd := RN
  clear RN
  have RN := hide ((unhide Rs).below bX)
  clear Rs
  have Rs := RN
  clear RN
  have RN := hide ((unhide Rk).below bX)
  clear Rk
  have Rk := RN
  clear RN
  have KN := hide ((unhide Kg).below bX)
  clear Kg
  have Kg := KN
  clear KN
  have RN := hide ((unhide Rg).below bX)
  clear Rg
  have Rg := RN
  clear RN
  have KN := hide ((unhide Ka).below bX)
  clear Ka
  have Ka := KN
  clear KN
  have RN := hide ((unhide Ra).below bX)
  clear Ra
  have Ra := RN
  clear RN
  have KN := hide ((unhide Kb).below bX)
  clear Kb
  have Kb := KN
  clear KN
  have RN := hide ((unhide Rb).below bX)
  clear Rb
  have Rb := RN
  clear RN
  have BN := hide (belows (unhide BX) bX)
  clear BX
  have BX := BN
  clear BN
  clear bX H2
  have bal : Below w3.heap.size w3 (w3.alloc (Obj.cells #[.int .i64 e2.room, .slice ac e2.files.length capc, .int .i64 e2.fuse, .int .i64 e2.fault, .bool e2.down] 24)) := (Below.refl _ _).alloc (Nat.le_refl _) _
  have KN := hide ((unhide Kd).below bal)
  clear Kd
  have Kd := KN
  clear KN
  have RN := hide ((unhide Rd).below bal)
  clear Rd
  have Rd := RN
  clear RN
  have RN := hide ((unhide Rs).below bal)
  clear Rs
  have Rs := RN
  clear RN
  have RN := hide ((unhide Rk).below bal)
  clear Rk
  have Rk := RN
  clear RN
  have KN := hide ((unhide Kg).below bal)
  clear Kg
  have Kg := KN
  clear KN
  have RN := hide ((unhide Rg).below bal)
  clear Rg
  have Rg := RN
  clear RN
  have KN := hide ((unhide Ka).below bal)
  clear Ka
  have Ka := KN
  clear KN
  have RN := hide ((unhide Ra).below bal)
  clear Ra
  have Ra := RN
  clear RN
  have KN := hide ((unhide Kb).below bal)
  clear Kb
  have Kb := KN
  clear KN
  have RN := hide ((unhide Rb).below bal)
  clear Rb
  have Rb := RN
  clear RN
  have BN := hide (belows (unhide BX) bal)
  clear BX
  have BX := BN
  clear BN
  have Kc := hide (Blk.new w3 24 #[.int .i64 e2.room, .slice ac e2.files.length capc, .int .i64 e2.fuse, .int .i64 e2.fault, .bool e2.down])
  have Rc := hide (rc.below bal)
  clear bal rc
  have c0 := (unhide Kd).cell 0
  have c1 := (unhide Kd).cell 1
  have c2 := (unhide Kd).cell 2
  have c3 := (unhide Kd).cell 3
  have c4 := (unhide Kd).cell 4
  simp only [List.getElem?_toArray, List.getElem?_cons_succ, List.getElem?_cons_zero] at c0 c1 c2 c3 c4
  go_wp2_with fail
  clear c0 c1 c2 c3 c4
  refine (unhide G2 _ (unhide Rd)).mono ?_
  rintro e w4 ⟨ve, rfl, re, bX⟩
  obtain ⟨ae, cape, hve, _⟩ := id re
  subst hve
  have KN := hide ((unhide Kd).below bX)
  clear Kd
  have Kd := KN
  clear KN
  have RN := hide ((unhide Rd).below bX)
  clear Rd
  have Rd := RN
  clear RN
  have RN := hide ((unhide Rs).below bX)
  clear Rs
  have Rs := RN
  clear RN
  have RN := hide ((unhide Rk).below bX)
  clear Rk
  have Rk := RN
  clear RN
  have KN := hide ((unhide Kg).below bX)
  clear Kg
  have Kg := KN
  clear KN
  have RN := hide ((unhide Rg).below bX)
  clear Rg
  have Rg := RN
  clear RN
  have KN := hide ((unhide Ka).below bX)
  clear Ka
  have Ka := KN
  clear KN
  have RN := hide ((unhide Ra).below bX)
  clear Ra
  have Ra := RN
  clear RN
  have KN := hide ((unhide Kb).below bX)
  clear Kb
  have Kb := KN
  clear KN
  have RN := hide ((unhide Rb).below bX)
  clear Rb
  have Rb := RN
  clear RN
  have KN := hide ((unhide Kc).below bX)
  clear Kc
  have Kc := KN
  clear KN
  have RN := hide ((unhide Rc).below bX)
  clear Rc
  have Rc := RN
  clear RN
  have BN := hide (belows (unhide BX) bX)
  clear BX
  have BX := BN
  clear BN
  clear bX G2
  have bal : Below w4.heap.size w4 (w4.alloc (Obj.cells #[.int .i64 e2.room, .slice ae e2.files.length cape, .int .i64 e2.fuse, .int .i64 e2.fault, .bool e2.down] 24)) := (Below.refl _ _).alloc (Nat.le_refl _) _
  have KN := hide ((unhide Kd).below bal)
  clear Kd
  have Kd := KN
  clear KN
  have RN := hide ((unhide Rd).below bal)
  clear Rd
  have Rd := RN
  clear RN
  have RN := hide ((unhide Rs).below bal)
  clear Rs
  have Rs := RN
  clear RN
  have RN := hide ((unhide Rk).below bal)
  clear Rk
  have Rk := RN
  clear RN
  have KN := hide ((unhide Kg).below bal)
  clear Kg
  have Kg := KN
  clear KN
  have RN := hide ((unhide Rg).below bal)
  clear Rg
  have Rg := RN
  clear RN
  have KN := hide ((unhide Ka).below bal)
  clear Ka
  have Ka := KN
  clear KN
  have RN := hide ((unhide Ra).below bal)
  clear Ra
  have Ra := RN
  clear RN
  have KN := hide ((unhide Kb).below bal)
  clear Kb
  have Kb := KN
  clear KN
  have RN := hide ((unhide Rb).below bal)
  clear Rb
  have Rb := RN
  clear RN
  have KN := hide ((unhide Kc).below bal)
  clear Kc
  have Kc := KN
  clear KN
  have RN := hide ((unhide Rc).below bal)
  clear Rc
  have Rc := RN
  clear RN
  have BN := hide (belows (unhide BX) bal)
  clear BX
  have BX := BN
  clear BN
  have Ke := hide (Blk.new w4 24 #[.int .i64 e2.room, .slice ae e2.files.length cape, .int .i64 e2.fuse, .int .i64 e2.fault, .bool e2.down])
  have Re := hide (re.below bal)
  clear bal re
  have c0 := (unhide Kg).cell 0
  have c1 := (unhide Kg).cell 1
  have c2 := (unhide Kg).cell 2
  have c3 := (unhide Kg).cell 3
  have c4 := (unhide Kg).cell 4
  simp only [List.getElem?_toArray, List.getElem?_cons_succ, List.getElem?_cons_zero] at c0 c1 c2 c3 c4
  go_wp2_with fail
  clear c0 c1 c2 c3 c4
  refine (unhide H3 _ _ (unhide Rg)).mono ?_
  rintro e w5 ⟨vf, rfl, rf, _, bX⟩
  obtain ⟨af, capf, hvf, _⟩ := id rf
  subst hvf
  have KN := hide ((unhide Kd).below bX)
  clear Kd
  have Kd := KN
  clear KN
  have RN := hide ((unhide Rd).below bX)
  clear Rd
  have Rd := RN
  clear RN
  have RN := hide ((unhide Rs).below bX)
  clear Rs
  have Rs := RN
  clear RN
  have RN := hide ((unhide Rk).below bX)
  clear Rk
  have Rk := RN
  clear RN
  have KN := hide ((unhide Kg).below bX)
  clear Kg
  have Kg := KN
  clear KN
  have RN := hide ((unhide Rg).below bX)
  clear Rg
  have Rg := RN
  clear RN
  have KN := hide ((unhide Ka).below bX)
  clear Ka
  have Ka := KN
  clear KN
  have RN := hide ((unhide Ra).below bX)
  clear Ra
  have Ra := RN
  clear RN
  have KN := hide ((unhide Kb).below bX)
  clear Kb
  have Kb := KN
  clear KN
  have RN := hide ((unhide Rb).below bX)
  clear Rb
  have Rb := RN
  clear RN
  have KN := hide ((unhide Kc).below bX)
  clear Kc
  have Kc := KN
  clear KN
  have RN := hide ((unhide Rc).below bX)
  clear Rc
  have Rc := RN
  clear RN
  have KN := hide ((unhide Ke).below bX)
  clear Ke
  have Ke := KN
  clear KN
  have RN := hide ((unhide Re).below bX)
  clear Re
  have Re := RN
  clear RN
  have BN := hide (belows (unhide BX) bX)
  clear BX
  have BX := BN
  clear BN
  clear bX H3
  have bal : Below w5.heap.size w5 (w5.alloc (Obj.cells #[.int .i64 e3.room, .slice af e3.files.length capf, .int .i64 e3.fuse, .int .i64 e3.fault, .bool e3.down] 24)) := (Below.refl _ _).alloc (Nat.le_refl _) _
  have KN := hide ((unhide Kd).below bal)
  clear Kd
  have Kd := KN
  clear KN
  have RN := hide ((unhide Rd).below bal)
  clear Rd
  have Rd := RN
  clear RN
  have RN := hide ((unhide Rs).below bal)
  clear Rs
  have Rs := RN
  clear RN
  have RN := hide ((unhide Rk).below bal)
  clear Rk
  have Rk := RN
  clear RN
  have KN := hide ((unhide Kg).below bal)
  clear Kg
  have Kg := KN
  clear KN
  have RN := hide ((unhide Rg).below bal)
  clear Rg
  have Rg := RN
  clear RN
  have KN := hide ((unhide Ka).below bal)
  clear Ka
  have Ka := KN
  clear KN
  have RN := hide ((unhide Ra).below bal)
  clear Ra
  have Ra := RN
  clear RN
  have KN := hide ((unhide Kb).below bal)
  clear Kb
  have Kb := KN
  clear KN
  have RN := hide ((unhide Rb).below bal)
  clear Rb
  have Rb := RN
  clear RN
  have KN := hide ((unhide Kc).below bal)
  clear Kc
  have Kc := KN
  clear KN
  have RN := hide ((unhide Rc).below bal)
  clear Rc
  have Rc := RN
  clear RN
  have KN := hide ((unhide Ke).below bal)
  clear Ke
  have Ke := KN
  clear KN
  have RN := hide ((unhide Re).below bal)
  clear Re
  have Re := RN
  clear RN
  have BN := hide (belows (unhide BX) bal)
  clear BX
  have BX := BN
  clear BN
  have Kf := hide (Blk.new w5 24 #[.int .i64 e3.room, .slice af e3.files.length capf, .int .i64 e3.fuse, .int .i64 e3.fault, .bool e3.down])
  have Rf := hide (rf.below bal)
  clear bal rf
  have c0 := (unhide Kd).cell 0
  have c1 := (unhide Kd).cell 1
  have c2 := (unhide Kd).cell 2
  have c3 := (unhide Kd).cell 3
  have c4 := (unhide Kd).cell 4
  simp only [List.getElem?_toArray, List.getElem?_cons_succ, List.getElem?_cons_zero] at c0 c1 c2 c3 c4
  go_wp2_with fail
  clear c0 c1 c2 c3 c4
  refine (unhide G3 _ (unhide Rd)).mono ?_
  rintro e w6 ⟨vh, rfl, rh, bX⟩
  obtain ⟨ah, caph, hvh, _⟩ := id rh
  subst hvh
  have KN := hide ((unhide Kd).below bX)
  clear Kd
  have Kd := KN
  clear KN
  have RN := hide ((unhide Rd).below bX)
  clear Rd
  have Rd := RN
  clear RN
  have RN := hide ((unhide Rs).below bX)
  clear Rs
  have Rs := RN
  clear RN
  have RN := hide ((unhide Rk).below bX)
  clear Rk
  have Rk := RN
  clear RN
  have KN := hide ((unhide Kg).below bX)
  clear Kg
  have Kg := KN
  clear KN
  have RN := hide ((unhide Rg).below bX)
  clear Rg
  have Rg := RN
  clear RN
  have KN := hide ((unhide Ka).below bX)
  clear Ka
  have Ka := KN
  clear KN
  have RN := hide ((unhide Ra).below bX)
  clear Ra
  have Ra := RN
  clear RN
  have KN := hide ((unhide Kb).below bX)
  clear Kb
  have Kb := KN
  clear KN
  have RN := hide ((unhide Rb).below bX)
  clear Rb
  have Rb := RN
  clear RN
  have KN := hide ((unhide Kc).below bX)
  clear Kc
  have Kc := KN
  clear KN
  have RN := hide ((unhide Rc).below bX)
  clear Rc
  have Rc := RN
  clear RN
  have KN := hide ((unhide Ke).below bX)
  clear Ke
  have Ke := KN
  clear KN
  have RN := hide ((unhide Re).below bX)
  clear Re
  have Re := RN
  clear RN
  have KN := hide ((unhide Kf).below bX)
  clear Kf
  have Kf := KN
  clear KN
  have RN := hide ((unhide Rf).below bX)
  clear Rf
  have Rf := RN
  clear RN
  have BN := hide (belows (unhide BX) bX)
  clear BX
  have BX := BN
  clear BN
  clear bX G3
  have bal : Below w6.heap.size w6 (w6.alloc (Obj.cells #[.int .i64 e3.room, .slice ah e3.files.length caph, .int .i64 e3.fuse, .int .i64 e3.fault, .bool e3.down] 24)) := (Below.refl _ _).alloc (Nat.le_refl _) _
  have KN := hide ((unhide Kd).below bal)
  clear Kd
  have Kd := KN
  clear KN
  have RN := hide ((unhide Rd).below bal)
  clear Rd
  have Rd := RN
  clear RN
  have RN := hide ((unhide Rs).below bal)
  clear Rs
  have Rs := RN
  clear RN
  have RN := hide ((unhide Rk).below bal)
  clear Rk
  have Rk := RN
  clear RN
  have KN := hide ((unhide Kg).below bal)
  clear Kg
  have Kg := KN
  clear KN
  have RN := hide ((unhide Rg).below bal)
  clear Rg
  have Rg := RN
  clear RN
  have KN := hide ((unhide Ka).below bal)
  clear Ka
  have Ka := KN
  clear KN
  have RN := hide ((unhide Ra).below bal)
  clear Ra
  have Ra := RN
  clear RN
  have KN := hide ((unhide Kb).below bal)
  clear Kb
  have Kb := KN
  clear KN
  have RN := hide ((unhide Rb).below bal)
  clear Rb
  have Rb := RN
  clear RN
  have KN := hide ((unhide Kc).below bal)
  clear Kc
  have Kc := KN
  clear KN
  have RN := hide ((unhide Rc).below bal)
  clear Rc
  have Rc := RN
  clear RN
  have KN := hide ((unhide Ke).below bal)
  clear Ke
  have Ke := KN
  clear KN
  have RN := hide ((unhide Re).below bal)
  clear Re
  have Re := RN
  clear RN
  have KN := hide ((unhide Kf).below bal)
  clear Kf
  have Kf := KN
  clear KN
  have RN := hide ((unhide Rf).below bal)
  clear Rf
  have Rf := RN
  clear RN
  have BN := hide (belows (unhide BX) bal)
  clear BX
  have BX := BN
  clear BN
  have Kh := hide (Blk.new w6 24 #[.int .i64 e3.room, .slice ah e3.files.length caph, .int .i64 e3.fuse, .int .i64 e3.fault, .bool e3.down])
  have Rh := hide (rh.below bal)
  clear bal rh
  have c0 := (unhide Kg).cell 0
  have c1 := (unhide Kg).cell 1
  have c2 := (unhide Kg).cell 2
  have c3 := (unhide Kg).cell 3
  have c4 := (unhide Kg).cell 4
  simp only [List.getElem?_toArray, List.getElem?_cons_succ, List.getElem?_cons_zero] at c0 c1 c2 c3 c4
  go_wp2_with fail
  clear c0 c1 c2 c3 c4
  refine (unhide H4 _ _ (unhide Rg)).mono ?_
  rintro e w7 ⟨rfl, bX⟩
  have KN := hide ((unhide Kd).below bX)
  clear Kd
  have Kd := KN
  clear KN
  have RN := hide ((unhide Rd).below bX)
  clear Rd
  have Rd := RN
  clear RN
  have RN := hide ((unhide Rs).below bX)
  clear Rs
  have Rs := RN
  clear RN
  have RN := hide ((unhide Rk).below bX)
  clear Rk
  have Rk := RN
  clear RN
  have KN := hide ((unhide Kg).below bX)
  clear Kg
  have Kg := KN
  clear KN
  have RN := hide ((unhide Rg).below bX)
  clear Rg
  have Rg := RN
  clear RN
  have KN := hide ((unhide Ka).below bX)
  clear Ka
  have Ka := KN
  clear KN
  have RN := hide ((unhide Ra).below bX)
  clear Ra
  have Ra := RN
  clear RN
  have KN := hide ((unhide Kb).below bX)
  clear Kb
  have Kb := KN
  clear KN
  have RN := hide ((unhide Rb).below bX)
  clear Rb
  have Rb := RN
  clear RN
  have KN := hide ((unhide Kc).below bX)
  clear Kc
  have Kc := KN
  clear KN
  have RN := hide ((unhide Rc).below bX)
  clear Rc
  have Rc := RN
  clear RN
  have KN := hide ((unhide Ke).below bX)
  clear Ke
  have Ke := KN
  clear KN
  have RN := hide ((unhide Re).below bX)
  clear Re
  have Re := RN
  clear RN
  have KN := hide ((unhide Kf).below bX)
  clear Kf
  have Kf := KN
  clear KN
  have RN := hide ((unhide Rf).below bX)
  clear Rf
  have Rf := RN
  clear RN
  have KN := hide ((unhide Kh).below bX)
  clear Kh
  have Kh := KN
  clear KN
  have RN := hide ((unhide Rh).below bX)
  clear Rh
  have Rh := RN
  clear RN
  have BN := hide (belows (unhide BX) bX)
  clear BX
  have BX := BN
  clear BN
  clear bX H4
  have c0 := (unhide Kd).cell 0
  have c1 := (unhide Kd).cell 1
  have c2 := (unhide Kd).cell 2
  have c3 := (unhide Kd).cell 3
  have c4 := (unhide Kd).cell 4
  simp only [List.getElem?_toArray, List.getElem?_cons_succ, List.getElem?_cons_zero] at c0 c1 c2 c3 c4
  go_wp2_with fail
  clear c0 c1 c2 c3 c4
  refine (unhide G4 _ (unhide Rd)).mono ?_
  rintro e w8 ⟨rfl, bX⟩
  have KN := hide ((unhide Kd).below bX)
  clear Kd
  have Kd := KN
  clear KN
  have RN := hide ((unhide Rd).below bX)
  clear Rd
  have Rd := RN
  clear RN
  have RN := hide ((unhide Rs).below bX)
  clear Rs
  have Rs := RN
  clear RN
  have RN := hide ((unhide Rk).below bX)
  clear Rk
  have Rk := RN
  clear RN
  have KN := hide ((unhide Kg).below bX)
  clear Kg
  have Kg := KN
  clear KN
  have RN := hide ((unhide Rg).below bX)
  clear Rg
  have Rg := RN
  clear RN
  have KN := hide ((unhide Ka).below bX)
  clear Ka
  have Ka := KN
  clear KN
  have RN := hide ((unhide Ra).below bX)
  clear Ra
  have Ra := RN
  clear RN
  have KN := hide ((unhide Kb).below bX)
  clear Kb
  have Kb := KN
  clear KN
  have RN := hide ((unhide Rb).below bX)
  clear Rb
  have Rb := RN
  clear RN
  have KN := hide ((unhide Kc).below bX)
  clear Kc
  have Kc := KN
  clear KN
  have RN := hide ((unhide Rc).below bX)
  clear Rc
  have Rc := RN
  clear RN
  have KN := hide ((unhide Ke).below bX)
  clear Ke
  have Ke := KN
  clear KN
  have RN := hide ((unhide Re).below bX)
  clear Re
  have Re := RN
  clear RN
  have KN := hide ((unhide Kf).below bX)
  clear Kf
  have Kf := KN
  clear KN
  have RN := hide ((unhide Rf).below bX)
  clear Rf
  have Rf := RN
  clear RN
  have KN := hide ((unhide Kh).below bX)
  clear Kh
  have Kh := KN
  clear KN
  have RN := hide ((unhide Rh).below bX)
  clear Rh
  have Rh := RN
  clear RN
  have BN := hide (belows (unhide BX) bX)
  clear BX
  have BX := BN
  clear BN
  clear bX G4
  have c0 := (unhide Kg).cell 0
  have c1 := (unhide Kg).cell 1
  have c2 := (unhide Kg).cell 2
  have c3 := (unhide Kg).cell 3
  have c4 := (unhide Kg).cell 4
  simp only [List.getElem?_toArray, List.getElem?_cons_succ, List.getElem?_cons_zero] at c0 c1 c2 c3 c4
  go_wp2_with fail
  clear c0 c1 c2 c3 c4
  refine (unhide H5 _ _ (unhide Rg) (unhide Rk)).mono ?_
  rintro e w9 ⟨vx, rfl, rx, _, bX⟩
  obtain ⟨ax, capx, hvx, _⟩ := id rx
  subst hvx
  have KN := hide ((unhide Kd).below bX)
  clear Kd
  have Kd := KN
  clear KN
  have RN := hide ((unhide Rd).below bX)
  clear Rd
  have Rd := RN
  clear RN
  have RN := hide ((unhide Rs).below bX)
  clear Rs
  have Rs := RN
  clear RN
  have RN := hide ((unhide Rk).below bX)
  clear Rk
  have Rk := RN
  clear RN
  have KN := hide ((unhide Kg).below bX)
  clear Kg
  have Kg := KN
  clear KN
  have RN := hide ((unhide Rg).below bX)
  clear Rg
  have Rg := RN
  clear RN
  have KN := hide ((unhide Ka).below bX)
  clear Ka
  have Ka := KN
  clear KN
  have RN := hide ((unhide Ra).below bX)
  clear Ra
  have Ra := RN
  clear RN
  have KN := hide ((unhide Kb).below bX)
  clear Kb
  have Kb := KN
  clear KN
  have RN := hide ((unhide Rb).below bX)
  clear Rb
  have Rb := RN
  clear RN
  have KN := hide ((unhide Kc).below bX)
  clear Kc
  have Kc := KN
  clear KN
  have RN := hide ((unhide Rc).below bX)
  clear Rc
  have Rc := RN
  clear RN
  have KN := hide ((unhide Ke).below bX)
  clear Ke
  have Ke := KN
  clear KN
  have RN := hide ((unhide Re).below bX)
  clear Re
  have Re := RN
  clear RN
  have KN := hide ((unhide Kf).below bX)
  clear Kf
  have Kf := KN
  clear KN
  have RN := hide ((unhide Rf).below bX)
  clear Rf
  have Rf := RN
  clear RN
  have KN := hide ((unhide Kh).below bX)
  clear Kh
  have Kh := KN
  clear KN
  have RN := hide ((unhide Rh).below bX)
  clear Rh
  have Rh := RN
  clear RN
  have BN := hide (belows (unhide BX) bX)
  clear BX
  have BX := BN
  clear BN
  clear bX H5
  have bal : Below w9.heap.size w9 (w9.alloc (Obj.cells #[.int .i64 e5.room, .slice ax e5.files.length capx, .int .i64 e5.fuse, .int .i64 e5.fault, .bool e5.down] 24)) := (Below.refl _ _).alloc (Nat.le_refl _) _
  have KN := hide ((unhide Kd).below bal)
  clear Kd
  have Kd := KN
  clear KN
  have RN := hide ((unhide Rd).below bal)
  clear Rd
  have Rd := RN
  clear RN
  have RN := hide ((unhide Rs).below bal)
  clear Rs
  have Rs := RN
  clear RN
  have RN := hide ((unhide Rk).below bal)
  clear Rk
  have Rk := RN
  clear RN
  have KN := hide ((unhide Kg).below bal)
  clear Kg
  have Kg := KN
  clear KN
  have RN := hide ((unhide Rg).below bal)
  clear Rg
  have Rg := RN
  clear RN
  have KN := hide ((unhide Ka).below bal)
  clear Ka
  have Ka := KN
  clear KN
  have RN := hide ((unhide Ra).below bal)
  clear Ra
  have Ra := RN
  clear RN
  have KN := hide ((unhide Kb).below bal)
  clear Kb
  have Kb := KN
  clear KN
  have RN := hide ((unhide Rb).below bal)
  clear Rb
  have Rb := RN
  clear RN
  have KN := hide ((unhide Kc).below bal)
  clear Kc
  have Kc := KN
  clear KN
  have RN := hide ((unhide Rc).below bal)
  clear Rc
  have Rc := RN
  clear RN
  have KN := hide ((unhide Ke).below bal)
  clear Ke
  have Ke := KN
  clear KN
  have RN := hide ((unhide Re).below bal)
  clear Re
  have Re := RN
  clear RN
  have KN := hide ((unhide Kf).below bal)
  clear Kf
  have Kf := KN
  clear KN
  have RN := hide ((unhide Rf).below bal)
  clear Rf
  have Rf := RN
  clear RN
  have KN := hide ((unhide Kh).below bal)
  clear Kh
  have Kh := KN
  clear KN
  have RN := hide ((unhide Rh).below bal)
  clear Rh
  have Rh := RN
  clear RN
  have BN := hide (belows (unhide BX) bal)
  clear BX
  have BX := BN
  clear BN
  have Kx := hide (Blk.new w9 24 #[.int .i64 e5.room, .slice ax e5.files.length capx, .int .i64 e5.fuse, .int .i64 e5.fault, .bool e5.down])
  have Rx := hide (rx.below bal)
  clear bal rx
  have c0 := (unhide Kd).cell 0
  have c1 := (unhide Kd).cell 1
  have c2 := (unhide Kd).cell 2
  have c3 := (unhide Kd).cell 3
  have c4 := (unhide Kd).cell 4
  simp only [List.getElem?_toArray, List.getElem?_cons_succ, List.getElem?_cons_zero] at c0 c1 c2 c3 c4
  go_wp2_with fail
  clear c0 c1 c2 c3 c4
  refine (unhide G5 _ (unhide Rd) (unhide Rk)).mono ?_
  rintro e w10 ⟨vy, rfl, ry, bX⟩
  obtain ⟨ay, capy, hvy, _⟩ := id ry
  subst hvy
  have KN := hide ((unhide Kd).below bX)
  clear Kd
  have Kd := KN
  clear KN
  have RN := hide ((unhide Rd).below bX)
  clear Rd
  have Rd := RN
  clear RN
  have RN := hide ((unhide Rs).below bX)
  clear Rs
  have Rs := RN
  clear RN
  have RN := hide ((unhide Rk).below bX)
  clear Rk
  have Rk := RN
  clear RN
  have KN := hide ((unhide Kg).below bX)
  clear Kg
  have Kg := KN
  clear KN
  have RN := hide ((unhide Rg).below bX)
  clear Rg
  have Rg := RN
  clear RN
  have KN := hide ((unhide Ka).below bX)
  clear Ka
  have Ka := KN
  clear KN
  have RN := hide ((unhide Ra).below bX)
  clear Ra
  have Ra := RN
  clear RN
  have KN := hide ((unhide Kb).below bX)
  clear Kb
  have Kb := KN
  clear KN
  have RN := hide ((unhide Rb).below bX)
  clear Rb
  have Rb := RN
  clear RN
  have KN := hide ((unhide Kc).below bX)
  clear Kc
  have Kc := KN
  clear KN
  have RN := hide ((unhide Rc).below bX)
  clear Rc
  have Rc := RN
  clear RN
  have KN := hide ((unhide Ke).below bX)
  clear Ke
  have Ke := KN
  clear KN
  have RN := hide ((unhide Re).below bX)
  clear Re
  have Re := RN
  clear RN
  have KN := hide ((unhide Kf).below bX)
  clear Kf
  have Kf := KN
  clear KN
  have RN := hide ((unhide Rf).below bX)
  clear Rf
  have Rf := RN
  clear RN
  have KN := hide ((unhide Kh).below bX)
  clear Kh
  have Kh := KN
  clear KN
  have RN := hide ((unhide Rh).below bX)
  clear Rh
  have Rh := RN
  clear RN
  have KN := hide ((unhide Kx).below bX)
  clear Kx
  have Kx := KN
  clear KN
  have RN := hide ((unhide Rx).below bX)
  clear Rx
  have Rx := RN
  clear RN
  have BN := hide (belows (unhide BX) bX)
  clear BX
  have BX := BN
  clear BN
  clear bX G5
  have bal : Below w10.heap.size w10 (w10.alloc (Obj.cells #[.int .i64 e5.room, .slice ay e5.files.length capy, .int .i64 e5.fuse, .int .i64 e5.fault, .bool e5.down] 24)) := (Below.refl _ _).alloc (Nat.le_refl _) _
  have KN := hide ((unhide Kd).below bal)
  clear Kd
  have Kd := KN
  clear KN
  have RN := hide ((unhide Rd).below bal)
  clear Rd
  have Rd := RN
  clear RN
  have RN := hide ((unhide Rs).below bal)
  clear Rs
  have Rs := RN
  clear RN
  have RN := hide ((unhide Rk).below bal)
  clear Rk
  have Rk := RN
  clear RN
  have KN := hide ((unhide Kg).below bal)
  clear Kg
  have Kg := KN
  clear KN
  have RN := hide ((unhide Rg).below bal)
  clear Rg
  have Rg := RN
  clear RN
  have KN := hide ((unhide Ka).below bal)
  clear Ka
  have Ka := KN
  clear KN
  have RN := hide ((unhide Ra).below bal)
  clear Ra
  have Ra := RN
  clear RN
  have KN := hide ((unhide Kb).below bal)
  clear Kb
  have Kb := KN
  clear KN
  have RN := hide ((unhide Rb).below bal)
  clear Rb
  have Rb := RN
  clear RN
  have KN := hide ((unhide Kc).below bal)
  clear Kc
  have Kc := KN
  clear KN
  have RN := hide ((unhide Rc).below bal)
  clear Rc
  have Rc := RN
  clear RN
  have KN := hide ((unhide Ke).below bal)
  clear Ke
  have Ke := KN
  clear KN
  have RN := hide ((unhide Re).below bal)
  clear Re
  have Re := RN
  clear RN
  have KN := hide ((unhide Kf).below bal)
  clear Kf
  have Kf := KN
  clear KN
  have RN := hide ((unhide Rf).below bal)
  clear Rf
  have Rf := RN
  clear RN
  have KN := hide ((unhide Kh).below bal)
  clear Kh
  have Kh := KN
  clear KN
  have RN := hide ((unhide Rh).below bal)
  clear Rh
  have Rh := RN
  clear RN
  have KN := hide ((unhide Kx).below bal)
  clear Kx
  have Kx := KN
  clear KN
  have RN := hide ((unhide Rx).below bal)
  clear Rx
  have Rx := RN
  clear RN
  have BN := hide (belows (unhide BX) bal)
  clear BX
  have BX := BN
  clear BN
  have Ky := hide (Blk.new w10 24 #[.int .i64 e5.room, .slice ay e5.files.length capy, .int .i64 e5.fuse, .int .i64 e5.fault, .bool e5.down])
  have Ry := hide (ry.below bal)
  clear bal ry
  go_upto_region 12 with (fail)
  generalize (w10.alloc (Obj.cells #[.int .i64 e5.room, .slice ay e5.files.length capy, .int .i64 e5.fuse, .int .i64 e5.fault, .bool e5.down] 24)) = V at *
  go_wp2_with fail
  refine (unhide HLV _).mono ?_
  rintro e y0 ⟨rfl, bX⟩
  have KN := hide ((unhide Kd).below bX)
  clear Kd
  have Kd := KN
  clear KN
  have RN := hide ((unhide Rd).below bX)
  clear Rd
  have Rd := RN
  clear RN
  have KN := hide ((unhide Kg).below bX)
  clear Kg
  have Kg := KN
  clear KN
  have RN := hide ((unhide Rg).below bX)
  clear Rg
  have Rg := RN
  clear RN
  have KN := hide ((unhide Ka).below bX)
  clear Ka
  have Ka := KN
  clear KN
  have RN := hide ((unhide Ra).below bX)
  clear Ra
  have Ra := RN
  clear RN
  have KN := hide ((unhide Kb).below bX)
  clear Kb
  have Kb := KN
  clear KN
  have RN := hide ((unhide Rb).below bX)
  clear Rb
  have Rb := RN
  clear RN
  have KN := hide ((unhide Kc).below bX)
  clear Kc
  have Kc := KN
  clear KN
  have RN := hide ((unhide Rc).below bX)
  clear Rc
  have Rc := RN
  clear RN
  have KN := hide ((unhide Ke).below bX)
  clear Ke
  have Ke := KN
  clear KN
  have RN := hide ((unhide Re).below bX)
  clear Re
  have Re := RN
  clear RN
  have KN := hide ((unhide Kf).below bX)
  clear Kf
  have Kf := KN
  clear KN
  have RN := hide ((unhide Rf).below bX)
  clear Rf
  have Rf := RN
  clear RN
  have KN := hide ((unhide Kh).below bX)
  clear Kh
  have Kh := KN
  clear KN
  have RN := hide ((unhide Rh).below bX)
  clear Rh
  have Rh := RN
  clear RN
  have KN := hide ((unhide Kx).below bX)
  clear Kx
  have Kx := KN
  clear KN
  have RN := hide ((unhide Rx).below bX)
  clear Rx
  have Rx := RN
  clear RN
  have KN := hide ((unhide Ky).below bX)
  clear Ky
  have Ky := KN
  clear KN
  have RN := hide ((unhide Ry).below bX)
  clear Ry
  have Ry := RN
  clear RN
  have BN := hide (belows (unhide BX) bX)
  clear BX
  have BX := BN
  clear BN
  clear bX HLV Rs Rk
  have p0 := (unhide Ka).cell 0
  have p1 := (unhide Ka).cell 1
  have p2 := (unhide Ka).cell 2
  have p3 := (unhide Ka).cell 3
  have p4 := (unhide Ka).cell 4
  simp only [List.getElem?_toArray, List.getElem?_cons_succ, List.getElem?_cons_zero] at p0 p1 p2 p3 p4
  have q0 := (unhide Kb).cell 0
  have q1 := (unhide Kb).cell 1
  have q2 := (unhide Kb).cell 2
  have q3 := (unhide Kb).cell 3
  have q4 := (unhide Kb).cell 4
  simp only [List.getElem?_toArray, List.getElem?_cons_succ, List.getElem?_cons_zero] at q0 q1 q2 q3 q4
  go_wp2_with fail
  clear p0 p1 p2 p3 p4 q0 q1 q2 q3 q4
  refine (refSame_me e1 (.slice aa e1.files.length capa) (.slice ab e1.files.length capb) _ (unhide Ra) (unhide Rb)).mono ?_
  rintro e y1 ⟨rfl, bX⟩
  have KN := hide ((unhide Kd).below bX)
  clear Kd
  have Kd := KN
  clear KN
  have RN := hide ((unhide Rd).below bX)
  clear Rd
  have Rd := RN
  clear RN
  have KN := hide ((unhide Kg).below bX)
  clear Kg
  have Kg := KN
  clear KN
  have RN := hide ((unhide Rg).below bX)
  clear Rg
  have Rg := RN
  clear RN
  have KN := hide ((unhide Ka).below bX)
  clear Ka
  have Ka := KN
  clear KN
  have RN := hide ((unhide Ra).below bX)
  clear Ra
  have Ra := RN
  clear RN
  have KN := hide ((unhide Kb).below bX)
  clear Kb
  have Kb := KN
  clear KN
  have RN := hide ((unhide Rb).below bX)
  clear Rb
  have Rb := RN
  clear RN
  have KN := hide ((unhide Kc).below bX)
  clear Kc
  have Kc := KN
  clear KN
  have RN := hide ((unhide Rc).below bX)
  clear Rc
  have Rc := RN
  clear RN
  have KN := hide ((unhide Ke).below bX)
  clear Ke
  have Ke := KN
  clear KN
  have RN := hide ((unhide Re).below bX)
  clear Re
  have Re := RN
  clear RN
  have KN := hide ((unhide Kf).below bX)
  clear Kf
  have Kf := KN
  clear KN
  have RN := hide ((unhide Rf).below bX)
  clear Rf
  have Rf := RN
  clear RN
  have KN := hide ((unhide Kh).below bX)
  clear Kh
  have Kh := KN
  clear KN
  have RN := hide ((unhide Rh).below bX)
  clear Rh
  have Rh := RN
  clear RN
  have KN := hide ((unhide Kx).below bX)
  clear Kx
  have Kx := KN
  clear KN
  have RN := hide ((unhide Rx).below bX)
  clear Rx
  have Rx := RN
  clear RN
  have KN := hide ((unhide Ky).below bX)
  clear Ky
  have Ky := KN
  clear KN
  have RN := hide ((unhide Ry).below bX)
  clear Ry
  have Ry := RN
  clear RN
  have BN := hide (belows (unhide BX) bX)
  clear BX
  have BX := BN
  clear BN
  clear bX
  have p0 := (unhide Kc).cell 0
  have p1 := (unhide Kc).cell 1
  have p2 := (unhide Kc).cell 2
  have p3 := (unhide Kc).cell 3
  have p4 := (unhide Kc).cell 4
  simp only [List.getElem?_toArray, List.getElem?_cons_succ, List.getElem?_cons_zero] at p0 p1 p2 p3 p4
  have q0 := (unhide Ke).cell 0
  have q1 := (unhide Ke).cell 1
  have q2 := (unhide Ke).cell 2
  have q3 := (unhide Ke).cell 3
  have q4 := (unhide Ke).cell 4
  simp only [List.getElem?_toArray, List.getElem?_cons_succ, List.getElem?_cons_zero] at q0 q1 q2 q3 q4
  go_wp2_with fail
  clear p0 p1 p2 p3 p4 q0 q1 q2 q3 q4
  refine (refSame_me e2 (.slice ac e2.files.length capc) (.slice ae e2.files.length cape) _ (unhide Rc) (unhide Re)).mono ?_
  rintro e y2 ⟨rfl, bX⟩
  have KN := hide ((unhide Kd).below bX)
  clear Kd
  have Kd := KN
  clear KN
  have RN := hide ((unhide Rd).below bX)
  clear Rd
  have Rd := RN
  clear RN
  have KN := hide ((unhide Kg).below bX)
  clear Kg
  have Kg := KN
  clear KN
  have RN := hide ((unhide Rg).below bX)
  clear Rg
  have Rg := RN
  clear RN
  have KN := hide ((unhide Ka).below bX)
  clear Ka
  have Ka := KN
  clear KN
  have RN := hide ((unhide Ra).below bX)
  clear Ra
  have Ra := RN
  clear RN
  have KN := hide ((unhide Kb).below bX)
  clear Kb
  have Kb := KN
  clear KN
  have RN := hide ((unhide Rb).below bX)
  clear Rb
  have Rb := RN
  clear RN
  have KN := hide ((unhide Kc).below bX)
  clear Kc
  have Kc := KN
  clear KN
  have RN := hide ((unhide Rc).below bX)
  clear Rc
  have Rc := RN
  clear RN
  have KN := hide ((unhide Ke).below bX)
  clear Ke
  have Ke := KN
  clear KN
  have RN := hide ((unhide Re).below bX)
  clear Re
  have Re := RN
  clear RN
  have KN := hide ((unhide Kf).below bX)
  clear Kf
  have Kf := KN
  clear KN
  have RN := hide ((unhide Rf).below bX)
  clear Rf
  have Rf := RN
  clear RN
  have KN := hide ((unhide Kh).below bX)
  clear Kh
  have Kh := KN
  clear KN
  have RN := hide ((unhide Rh).below bX)
  clear Rh
  have Rh := RN
  clear RN
  have KN := hide ((unhide Kx).below bX)
  clear Kx
  have Kx := KN
  clear KN
  have RN := hide ((unhide Rx).below bX)
  clear Rx
  have Rx := RN
  clear RN
  have KN := hide ((unhide Ky).below bX)
  clear Ky
  have Ky := KN
  clear KN
  have RN := hide ((unhide Ry).below bX)
  clear Ry
  have Ry := RN
  clear RN
  have BN := hide (belows (unhide BX) bX)
  clear BX
  have BX := BN
  clear BN
  clear bX
  have p0 := (unhide Kf).cell 0
  have p1 := (unhide Kf).cell 1
  have p2 := (unhide Kf).cell 2
  have p3 := (unhide Kf).cell 3
  have p4 := (unhide Kf).cell 4
  simp only [List.getElem?_toArray, List.getElem?_cons_succ, List.getElem?_cons_zero] at p0 p1 p2 p3 p4
  have q0 := (unhide Kh).cell 0
  have q1 := (unhide Kh).cell 1
  have q2 := (unhide Kh).cell 2
  have q3 := (unhide Kh).cell 3
  have q4 := (unhide Kh).cell 4
  simp only [List.getElem?_toArray, List.getElem?_cons_succ, List.getElem?_cons_zero] at q0 q1 q2 q3 q4
  go_wp2_with fail
  clear p0 p1 p2 p3 p4 q0 q1 q2 q3 q4
  refine (refSame_me e3 (.slice af e3.files.length capf) (.slice ah e3.files.length caph) _ (unhide Rf) (unhide Rh)).mono ?_
  rintro e y3 ⟨rfl, bX⟩
  have KN := hide ((unhide Kd).below bX)
  clear Kd
  have Kd := KN
  clear KN
  have RN := hide ((unhide Rd).below bX)
  clear Rd
  have Rd := RN
  clear RN
  have KN := hide ((unhide Kg).below bX)
  clear Kg
  have Kg := KN
  clear KN
  have RN := hide ((unhide Rg).below bX)
  clear Rg
  have Rg := RN
  clear RN
  have KN := hide ((unhide Ka).below bX)
  clear Ka
  have Ka := KN
  clear KN
  have RN := hide ((unhide Ra).below bX)
  clear Ra
  have Ra := RN
  clear RN
  have KN := hide ((unhide Kb).below bX)
  clear Kb
  have Kb := KN
  clear KN
  have RN := hide ((unhide Rb).below bX)
  clear Rb
  have Rb := RN
  clear RN
  have KN := hide ((unhide Kc).below bX)
  clear Kc
  have Kc := KN
  clear KN
  have RN := hide ((unhide Rc).below bX)
  clear Rc
  have Rc := RN
  clear RN
  have KN := hide ((unhide Ke).below bX)
  clear Ke
  have Ke := KN
  clear KN
  have RN := hide ((unhide Re).below bX)
  clear Re
  have Re := RN
  clear RN
  have KN := hide ((unhide Kf).below bX)
  clear Kf
  have Kf := KN
  clear KN
  have RN := hide ((unhide Rf).below bX)
  clear Rf
  have Rf := RN
  clear RN
  have KN := hide ((unhide Kh).below bX)
  clear Kh
  have Kh := KN
  clear KN
  have RN := hide ((unhide Rh).below bX)
  clear Rh
  have Rh := RN
  clear RN
  have KN := hide ((unhide Kx).below bX)
  clear Kx
  have Kx := KN
  clear KN
  have RN := hide ((unhide Rx).below bX)
  clear Rx
  have Rx := RN
  clear RN
  have KN := hide ((unhide Ky).below bX)
  clear Ky
  have Ky := KN
  clear KN
  have RN := hide ((unhide Ry).below bX)
  clear Ry
  have Ry := RN
  clear RN
  have BN := hide (belows (unhide BX) bX)
  clear BX
  have BX := BN
  clear BN
  clear bX
  have p0 := (unhide Kx).cell 0
  have p1 := (unhide Kx).cell 1
  have p2 := (unhide Kx).cell 2
  have p3 := (unhide Kx).cell 3
  have p4 := (unhide Kx).cell 4
  simp only [List.getElem?_toArray, List.getElem?_cons_succ, List.getElem?_cons_zero] at p0 p1 p2 p3 p4
  have q0 := (unhide Ky).cell 0
  have q1 := (unhide Ky).cell 1
  have q2 := (unhide Ky).cell 2
  have q3 := (unhide Ky).cell 3
  have q4 := (unhide Ky).cell 4
  simp only [List.getElem?_toArray, List.getElem?_cons_succ, List.getElem?_cons_zero] at q0 q1 q2 q3 q4
  go_wp2_with fail
  clear p0 p1 p2 p3 p4 q0 q1 q2 q3 q4
  refine (refSame_me e5 (.slice ax e5.files.length capx) (.slice ay e5.files.length capy) _ (unhide Rx) (unhide Ry)).mono ?_
  rintro e y5 ⟨rfl, bX⟩
  have KN := hide ((unhide Kd).below bX)
  clear Kd
  have Kd := KN
  clear KN
  have RN := hide ((unhide Rd).below bX)
  clear Rd
  have Rd := RN
  clear RN
  have KN := hide ((unhide Kg).below bX)
  clear Kg
  have Kg := KN
  clear KN
  have RN := hide ((unhide Rg).below bX)
  clear Rg
  have Rg := RN
  clear RN
  have KN := hide ((unhide Ka).below bX)
  clear Ka
  have Ka := KN
  clear KN
  have RN := hide ((unhide Ra).below bX)
  clear Ra
  have Ra := RN
  clear RN
  have KN := hide ((unhide Kb).below bX)
  clear Kb
  have Kb := KN
  clear KN
  have RN := hide ((unhide Rb).below bX)
  clear Rb
  have Rb := RN
  clear RN
  have KN := hide ((unhide Kc).below bX)
  clear Kc
  have Kc := KN
  clear KN
  have RN := hide ((unhide Rc).below bX)
  clear Rc
  have Rc := RN
  clear RN
  have KN := hide ((unhide Ke).below bX)
  clear Ke
  have Ke := KN
  clear KN
  have RN := hide ((unhide Re).below bX)
  clear Re
  have Re := RN
  clear RN
  have KN := hide ((unhide Kf).below bX)
  clear Kf
  have Kf := KN
  clear KN
  have RN := hide ((unhide Rf).below bX)
  clear Rf
  have Rf := RN
  clear RN
  have KN := hide ((unhide Kh).below bX)
  clear Kh
  have Kh := KN
  clear KN
  have RN := hide ((unhide Rh).below bX)
  clear Rh
  have Rh := RN
  clear RN
  have KN := hide ((unhide Kx).below bX)
  clear Kx
  have Kx := KN
  clear KN
  have RN := hide ((unhide Rx).below bX)
  clear Rx
  have Rx := RN
  clear RN
  have KN := hide ((unhide Ky).below bX)
  clear Ky
  have Ky := KN
  clear KN
  have RN := hide ((unhide Ry).below bX)
  clear Ry
  have Ry := RN
  clear RN
  have BN := hide (belows (unhide BX) bX)
  clear BX
  have BX := BN
  clear BN
  clear bX
  have p0 := (unhide Kg).cell 0
  have p1 := (unhide Kg).cell 1
  have p2 := (unhide Kg).cell 2
  have p3 := (unhide Kg).cell 3
  have p4 := (unhide Kg).cell 4
  simp only [List.getElem?_toArray, List.getElem?_cons_succ, List.getElem?_cons_zero] at p0 p1 p2 p3 p4
  have q0 := (unhide Kd).cell 0
  have q1 := (unhide Kd).cell 1
  have q2 := (unhide Kd).cell 2
  have q3 := (unhide Kd).cell 3
  have q4 := (unhide Kd).cell 4
  simp only [List.getElem?_toArray, List.getElem?_cons_succ, List.getElem?_cons_zero] at q0 q1 q2 q3 q4
  go_wp2_with fail
  clear p0 p1 p2 p3 p4 q0 q1 q2 q3 q4
  refine (refSame_me d (.slice ag N capg) (.slice a N cap) _ (unhide Rg) (unhide Rd)).mono ?_
  rintro e y6 ⟨rfl, bX⟩
  have KN := hide ((unhide Kd).below bX)
  clear Kd
  have Kd := KN
  clear KN
  have RN := hide ((unhide Rd).below bX)
  clear Rd
  have Rd := RN
  clear RN
  have KN := hide ((unhide Kg).below bX)
  clear Kg
  have Kg := KN
  clear KN
  have RN := hide ((unhide Rg).below bX)
  clear Rg
  have Rg := RN
  clear RN
  have KN := hide ((unhide Ka).below bX)
  clear Ka
  have Ka := KN
  clear KN
  have RN := hide ((unhide Ra).below bX)
  clear Ra
  have Ra := RN
  clear RN
  have KN := hide ((unhide Kb).below bX)
  clear Kb
  have Kb := KN
  clear KN
  have RN := hide ((unhide Rb).below bX)
  clear Rb
  have Rb := RN
  clear RN
  have KN := hide ((unhide Kc).below bX)
  clear Kc
  have Kc := KN
  clear KN
  have RN := hide ((unhide Rc).below bX)
  clear Rc
  have Rc := RN
  clear RN
  have KN := hide ((unhide Ke).below bX)
  clear Ke
  have Ke := KN
  clear KN
  have RN := hide ((unhide Re).below bX)
  clear Re
  have Re := RN
  clear RN
  have KN := hide ((unhide Kf).below bX)
  clear Kf
  have Kf := KN
  clear KN
  have RN := hide ((unhide Rf).below bX)
  clear Rf
  have Rf := RN
  clear RN
  have KN := hide ((unhide Kh).below bX)
  clear Kh
  have Kh := KN
  clear KN
  have RN := hide ((unhide Rh).below bX)
  clear Rh
  have Rh := RN
  clear RN
  have KN := hide ((unhide Kx).below bX)
  clear Kx
  have Kx := KN
  clear KN
  have RN := hide ((unhide Rx).below bX)
  clear Rx
  have Rx := RN
  clear RN
  have KN := hide ((unhide Ky).below bX)
  clear Ky
  have Ky := KN
  clear KN
  have RN := hide ((unhide Ry).below bX)
  clear Ry
  have Ry := RN
  clear RN
  have BN := hide (belows (unhide BX) bX)
  clear BX
  have BX := BN
  clear BN
  clear bX
  go_wp2
  go_ret
  exact ⟨rfl, unhide BX⟩
end Go.Proofs.Ytmfkhbofmaonkaa

/-
  A file system, texts and numbers that came in.
-/
set_option linter.unusedVariables false
namespace Go.Proofs.Ytmfkhbofmaonkaa
open Go.ChangeShapes Go.WideShapes Go.RowKit Go.Proofs.Dsk

theorem sum_one1 : ∀ l : List Nat, (l.map fun _ => 1).sum = l.length
  | [] => rfl
  | _ :: r => by rw [List.map_cons, List.sum_cons, sum_one1 r, List.length_cons]; omega
theorem trod_fs {H : Type} {enc : TypeId × Value → H} {W : World} {base : Nat} {held : Bool} {fuel : Nat} {cs : List Value} {x : DataW H × List MemPlace}
    (hf : DataW.trod enc Try.prog W base (fun _ => true) held fuel 24 cs = some x) : ∃ (d : Fs) (v : Value), cs = (sysCells d v).toList ∧ RowF W v d.files ∧ FitAll d ∧ NeatF v ∧ sumF d.files + 1 ≤ Rows.uptoBulk x.1 := by
  obtain ⟨xs, n, _, rfl, hl, hlen, hx⟩ := DataW.trod_struct Try.underlying24 hf
  have c5 : (Try.prog).cellsOf 24 = 5 := by kernel_rfl
  have cf1 : (Try.prog).cellsOf 22 = 1 := by kernel_rfl
  have ci1 : (Try.prog).cellsOf 3 = 1 := by kernel_rfl
  have cb1 : (Try.prog).cellsOf 4 = 1 := by kernel_rfl
  rw [c5] at hl
  match xs, hlen with
  | [y0, y1, y2, y3, y4], _ =>
    have h0 := hx 0 _ rfl
    have h1 := hx 1 _ rfl
    have h2 := hx 2 _ rfl
    have h3 := hx 3 _ rfl
    have h4 := hx 4 _ rfl
    match cs, hl with
    | [u0, u1, u2, u3, u4], _ =>
      simp [cf1, ci1, cb1] at h0 h1 h2 h3 h4
      obtain ⟨s0, e0, f0, g0⟩ := DataW.trod_int Try.underlying3 h0
      obtain ⟨v, l, e1, hr, hnt, hb⟩ := trod_rowF h1
      obtain ⟨s2, e2, f2, g2⟩ := DataW.trod_int Try.underlying3 h2
      obtain ⟨s3, e3, f3, g3⟩ := DataW.trod_int Try.underlying3 h3
      obtain ⟨s4, e4, f4⟩ := DataW.trod_bool Try.underlying4 h4
      simp only [List.cons.injEq, and_true] at e0 e1 e2 e3 e4
      subst e0 e1 e2 e3 e4
      refine ⟨⟨s0, l, s2, s3, s4⟩, _, rfl, hr, ⟨⟨wf64 g0, wf64 g2, wf64 g3⟩, ?_, ?_⟩, hnt, ?_⟩
      · obtain ⟨_, _, _, _, h, _⟩ := hr; exact h
      · obtain ⟨_, _, _, h, _⟩ := hr; exact h
      · show sumF l + 1 ≤ _
        simp only [List.map_cons, List.map_nil, Rows.uptoBulk, Rows.uptoBulkAll]
        omega

/-- A file system that came in. -/
theorem open_fs {H : Type} {enc : TypeId × Value → H} {W : World} {base base' : Nat} {held : Bool} {fuel : Nat} {v : Value} {x : DataW H × List MemPlace} {r : Reach} (hv : Value.okWide Try.prog W r base' 24 v)
    (hf : DataW.trod enc Try.prog W base (fun _ => true) held fuel 24 v.cells.toList = some x) : ∃ (d : Fs) (a : Option Addr) (n cap : Nat), v = fsV d (.slice a n cap) ∧ RowF W (.slice a n cap) d.files ∧ FitAll d ∧ NeatF (.slice a n cap) ∧ sumF d.files + 1 ≤ Rows.uptoBulk x.1 := by
  obtain ⟨cs, rfl, _⟩ := okWide_struct Try.underlying24 hv
  obtain ⟨d, u, hc, hr, hfit, hnt, hb⟩ := trod_fs hf
  obtain ⟨a, cap, hu, _⟩ := id hr
  subst hu
  refine ⟨d, a, d.files.length, cap, ?_, hr, hfit, hnt, hb⟩
  have : cs = sysCells d (.slice a d.files.length cap) := by
    have h2 : cs.toList = (sysCells d (.slice a d.files.length cap)).toList := by simpa [Value.cells] using hc
    exact Array.toList_inj.1 h2
  rw [this]
  rfl

theorem trod_rowS {H : Type} {enc : TypeId × Value → H} {W : World} {base : Nat} {held : Bool} {fuel : Nat} {cs : List Value} {x : DataW H × List MemPlace}
    (hf : DataW.trod enc Try.prog W base (fun _ => true) held fuel 30 cs = some x) : ∃ v l, cs = [v] ∧ RowS W v l ∧ sumS l + 1 ≤ Rows.uptoBulk x.1 := by
  rcases Go.Deep.open_slice Try.underlying30 hf with ⟨rfl, rfl⟩ | ⟨a, len, cap, m, n, D, Pl, rfl, _, hl, hm, hmm, rfl, hx⟩
  · exact ⟨_, [], rfl, ⟨none, 0, rfl, by simp, by simp, Or.inl rfl⟩, by simp [Rows.uptoBulk, sumS]⟩
  · have hmc : m = cap := by simpa using hmm
    subst hmc
    have ce : (Try.prog).cellsOf 9 = 1 := by kernel_rfl
    have each : ∀ i, i < m → ∃ s : ByteArray, W.cell? (a.add i) = some (.string s) ∧ s.size ≤ maxLen ∧ s.size + 1 ≤ Rows.uptoBulk (D i) := by
      intro i hi
      obtain ⟨cs', h1, h2⟩ := hx i hi
      rw [ce, Nat.mul_one] at h1
      obtain ⟨s0, rfl, f0, g0⟩ := DataW.trod_string Try.underlying9 h2
      obtain ⟨_, _, hcell⟩ := World.cells?_some h1
      have hc0 := hcell 0 (by omega)
      have hx0 : (a.add i).add 0 = a.add i := by simp [Addr.add]
      rw [hx0] at hc0
      refine ⟨s0, by rw [hc0]; rfl, g0, ?_⟩
      rw [(Prod.mk.inj f0).1]; simp [Rows.uptoBulk]
    obtain ⟨q, hq⟩ := Go.Deep.choose_lt each
    obtain ⟨l, hl'⟩ : ∃ l : List ByteArray, l = (List.range len).map q := ⟨_, rfl⟩
    have hll : l.length = len := by rw [hl']; simp
    refine ⟨_, l, rfl, ?_, ?_⟩
    · refine ⟨some a, m, by rw [hll], by unfold maxLen at hm; omega, fun y hy => ?_, ?_⟩
      · rw [hl'] at hy
        obtain ⟨i, hi, rfl⟩ := List.mem_map.1 hy
        have := (hq i (by have := List.mem_range.1 hi; omega)).2.1
        unfold maxLen at this
        omega
      · by_cases h0 : len = 0
        · left; exact List.eq_nil_of_length_eq_zero (by omega)
        · right
          have hc0 := (hq 0 (by omega)).1
          have hx0 : a.add 0 = a := by simp [Addr.add]
          rw [hx0] at hc0
          obtain ⟨b, off, rfl, hb⟩ := spot_none hc0
          refine ⟨b, off, rfl, hb, fun j hj => ?_⟩
          have := (hq j (by omega)).1
          rw [add_lit0] at this
          rw [this]
          simp [hl']
    · have hb := bulk_ge D (fun i => (q i).size + 1) (List.range len) (fun i hi => (hq i (by have := List.mem_range.1 hi; omega)).2.2)
      have hs : sumS l = ((List.range len).map fun i => (q i).size + 1).sum := by rw [hl', sumS, List.map_map]; rfl
      simp only [Rows.uptoBulk]
      omega
theorem trod_rowI {H : Type} {enc : TypeId × Value → H} {W : World} {base : Nat} {held : Bool} {fuel : Nat} {cs : List Value} {x : DataW H × List MemPlace}
    (hf : DataW.trod enc Try.prog W base (fun _ => true) held fuel 39 cs = some x) : ∃ v l, cs = [v] ∧ RowI W v l ∧ l.length + 1 ≤ Rows.uptoBulk x.1 := by
  rcases Go.Deep.open_slice Try.underlying39 hf with ⟨rfl, rfl⟩ | ⟨a, len, cap, m, n, D, Pl, rfl, _, hl, hm, hmm, rfl, hx⟩
  · exact ⟨_, [], rfl, ⟨none, 0, rfl, by simp, by simp, Or.inl rfl⟩, by simp [Rows.uptoBulk]⟩
  · have hmc : m = cap := by simpa using hmm
    subst hmc
    have ce : (Try.prog).cellsOf 3 = 1 := by kernel_rfl
    have each : ∀ i, i < m → ∃ s : Int, W.cell? (a.add i) = some (.int .i64 s) ∧ (-9223372036854775808 ≤ s ∧ s ≤ 9223372036854775807) ∧ 1 ≤ Rows.uptoBulk (D i) := by
      intro i hi
      obtain ⟨cs', h1, h2⟩ := hx i hi
      rw [ce, Nat.mul_one] at h1
      obtain ⟨s0, rfl, f0, g0⟩ := DataW.trod_int Try.underlying3 h2
      obtain ⟨_, _, hcell⟩ := World.cells?_some h1
      have hc0 := hcell 0 (by omega)
      have hx0 : (a.add i).add 0 = a.add i := by simp [Addr.add]
      rw [hx0] at hc0
      refine ⟨s0, by rw [hc0]; rfl, wf64 g0, ?_⟩
      rw [(Prod.mk.inj f0).1]; simp [Rows.uptoBulk]
    obtain ⟨q, hq⟩ := Go.Deep.choose_lt each
    obtain ⟨l, hl'⟩ : ∃ l : List Int, l = (List.range len).map q := ⟨_, rfl⟩
    have hll : l.length = len := by rw [hl']; simp
    refine ⟨_, l, rfl, ?_, ?_⟩
    · refine ⟨some a, m, by rw [hll], by unfold maxLen at hm; omega, fun y hy => ?_, ?_⟩
      · rw [hl'] at hy
        obtain ⟨i, hi, rfl⟩ := List.mem_map.1 hy
        exact (hq i (by have := List.mem_range.1 hi; omega)).2.1
      · by_cases h0 : len = 0
        · left; exact List.eq_nil_of_length_eq_zero (by omega)
        · right
          have hc0 := (hq 0 (by omega)).1
          have hx0 : a.add 0 = a := by simp [Addr.add]
          rw [hx0] at hc0
          obtain ⟨b, off, rfl, hb⟩ := spot_none hc0
          refine ⟨b, off, rfl, hb, fun j hj => ?_⟩
          have := (hq j (by omega)).1
          rw [add_lit0] at this
          rw [this]
          simp [hl']
    · have hb := bulk_ge D (fun _ => 1) (List.range len) (fun i hi => (hq i (by have := List.mem_range.1 hi; omega)).2.2)
      have hs : ((List.range len).map fun _ => 1).sum = len := by rw [sum_one1, List.length_range]
      simp only [Rows.uptoBulk]
      omega
section
variable {H : Type} {enc : TypeId × Value → H} {W : World} {base : Nat} {held : Bool} {fuel : Nat} {v : Value} {x : DataW H × List MemPlace}
theorem open_rowF (hv : ∃ a len cap, v = .slice a len cap) (hf : DataW.trod enc Try.prog W base (fun _ => true) held fuel 22 v.cells.toList = some x) : ∃ l, RowF W v l ∧ sumF l + 1 ≤ Rows.uptoBulk x.1 := by
  obtain ⟨a, len, cap, rfl⟩ := hv
  obtain ⟨v, l, hc, hr, _, hs⟩ := trod_rowF hf
  simp [Value.cells] at hc
  subst hc
  exact ⟨l, hr, hs⟩
theorem open_rowS (hv : ∃ a len cap, v = .slice a len cap) (hf : DataW.trod enc Try.prog W base (fun _ => true) held fuel 30 v.cells.toList = some x) : ∃ l, RowS W v l ∧ sumS l + 1 ≤ Rows.uptoBulk x.1 := by
  obtain ⟨a, len, cap, rfl⟩ := hv
  obtain ⟨v, l, hc, hr, hs⟩ := trod_rowS hf
  simp [Value.cells] at hc
  subst hc
  exact ⟨l, hr, hs⟩
theorem open_rowI (hv : ∃ a len cap, v = .slice a len cap) (hf : DataW.trod enc Try.prog W base (fun _ => true) held fuel 39 v.cells.toList = some x) : ∃ l, RowI W v l ∧ List.length l + 1 ≤ Rows.uptoBulk x.1 := by
  obtain ⟨a, len, cap, rfl⟩ := hv
  obtain ⟨v, l, hc, hr, hs⟩ := trod_rowI hf
  simp [Value.cells] at hc
  subst hc
  exact ⟨l, hr, hs⟩
end
end Go.Proofs.Ytmfkhbofmaonkaa

/-
  Files, texts and numbers that came in, for the frame of a second form (frame2.py): a bound that isn't wanted.
-/
set_option linter.unusedVariables false
namespace Go.Proofs.Ytmfkhbofmaonkaa
open Go.ChangeShapes Go.WideShapes Go.RowKit Go.Proofs.Dsk
section
variable {H : Type} {enc : TypeId × Value → H} {W : World} {base : Nat} {held : Bool} {fuel : Nat} {v : Value} {x : DataW H × List MemPlace}
theorem open_rowFb (hv : ∃ a len cap, v = .slice a len cap) (hf : DataW.trod enc Try.prog W base (fun _ => true) held fuel 22 v.cells.toList = some x) (hb : Rows.uptoBulk x.1 ≤ 1048576) : ∃ l, RowF W v l ∧ sumF l + 1 ≤ Rows.uptoBulk x.1 := open_rowF hv hf
theorem open_rowSb (hv : ∃ a len cap, v = .slice a len cap) (hf : DataW.trod enc Try.prog W base (fun _ => true) held fuel 30 v.cells.toList = some x) (hb : Rows.uptoBulk x.1 ≤ 1048576) : ∃ l, RowS W v l ∧ sumS l + 1 ≤ Rows.uptoBulk x.1 := open_rowS hv hf
theorem open_rowIb (hv : ∃ a len cap, v = .slice a len cap) (hf : DataW.trod enc Try.prog W base (fun _ => true) held fuel 39 v.cells.toList = some x) (hb : Rows.uptoBulk x.1 ≤ 1048576) : ∃ l, RowI W v l ∧ List.length l + 1 ≤ Rows.uptoBulk x.1 := open_rowI hv hf
end
end Go.Proofs.Ytmfkhbofmaonkaa
