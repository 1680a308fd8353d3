/-
  What the document's List does (missiveref04), over this seat's program.
-/
import Derived.Test.YtmfkhbofmaonkaaDqh
import Derived.Test.YtmfkhbofmaonkaaDli
set_option linter.unusedVariables false
set_option linter.unusedSimpArgs false
namespace Go.Proofs.Ytmfkhbofmaonkaa
open Go.RowKit Go.Proofs.Dsk

set_option maxHeartbeats 4000000 in
set_option maxRecDepth 100000 in
theorem refList_any (d : Fs) (v : Value) (w : World) (hfit : FitAll d) (h : RowF w v d.files) :
    Calls Try.prog 13 #[fsV d v] w fun e w' => ∃ v', e = .returned (.tuple #[v', .int .i64 (listR d).2]) ∧ RowS w' v' (listR d).1 ∧ Below w.heap.size w w' := by
  have hb := (Below.refl w.heap.size w).alloc (Nat.le_refl _) (Obj.cells #[.int .i64 d.room, v, .int .i64 d.fuse, .int .i64 d.fault, .bool d.down] 24)
  have hrd := refPower_any d v _ hfit.1 (h.below hb)
  have z0 := Blk.new w 24 #[.int .i64 d.room, v, .int .i64 d.fuse, .int .i64 d.fault, .bool d.down]
  have HROW := hide (h.below hb)
  have HB := hide hb
  have hno : ∀ W : World, RowS W (.slice none 0 0) [] := fun W => ⟨none, 0, rfl, by simp, by simp, Or.inl rfl⟩
  by_cases hrdy : ready d = 0
  · have hr : right d = true := by
      unfold ready at hrdy
      by_cases h0 : right d = false
      · rw [if_pos h0] at hrdy; omega
      · simpa using h0
    have hdn : ¬ d.down = true := by
      unfold ready at hrdy
      rw [if_neg (by simp [hr])] at hrdy
      intro h1
      rw [if_pos h1] at hrdy
      omega
    have hw : listR d = (d.files.map fun f => f.name, 0) := by unfold listR; rw [if_neg (by simp [hr]), if_neg hdn]
    rw [hrdy] at hrd
    rw [hw]
    obtain ⟨hp1, hp2, hp3, hp4⟩ := right_parts hr
    have hn10 := hp1.2.2.1
    have hsm := small_of_right hr
    obtain ⟨a, cap, rfl, _, _, hc⟩ := h
    have HC := hide hc
    have HSM := hide hsm
    simp only [fsV] at hrd ⊢
    have HRD := hide hrd
    have Z := hide z0
    obtain ⟨i0, hi, hz0, hz1, hz2⟩ := info_parts strInfo
    clear hrd hb z0 hr hrdy hw hdn hp1 hp2 hp3 hp4 hc hsm hno
    go_enter Try.func13, Try.ntmps13
    go_wp2_with fail
    refine (unhide HRD).mono ?_
    rintro e w1 ⟨rfl, b1⟩
    have c1 := ((unhide Z).below b1).cell 1
    simp only [List.getElem?_toArray, List.getElem?_cons_succ, List.getElem?_cons_zero] at c1
    have B1 := hide (below_alloc' b1)
    clear b1 HRD
    go_wp2
    go_loopw [5, 7, 16] (fun x y z wr => ∃ k : Nat, z = .int .i64 k ∧ k ≤ d.files.length ∧ wr.ownsRow w.heap.size 9 1 x k (cellsS ((d.files.take k).map fun f => f.name)) ∧ Below w.heap.size w wr) (fun _ _ z _ => d.files.length - (intOf z).toNat)
    case atStart => exact ⟨0, rfl, Nat.zero_le _, ⟨rfl, Or.inl ⟨rfl, rfl⟩⟩, unhide B1⟩
    case round =>
      obtain ⟨k, rfl, hk, hown, hbw⟩ := hrel
      have hbs := hbw.size
      by_cases hlt : k < d.files.length
      · rcases unhide HC with h0 | ⟨b, off, rfl, hbl, hcl⟩
        · rw [h0] at hlt; simp at hlt
        · obtain ⟨t0, t1, t2⟩ := row_cells hcl hlt
          have x0 : wr.cell? ⟨b, off + k * 3, none⟩ = some (.string d.files[k].name) := (hbw.cell (p := ⟨b, off + k * 3, none⟩) hbl).trans t0
          have x1 : wr.cell? ⟨b, off + k * 3 + 1, none⟩ = some (.string d.files[k].data) := (hbw.cell (p := ⟨b, off + k * 3 + 1, none⟩) hbl).trans t1
          have x2 : wr.cell? ⟨b, off + k * 3 + 2, none⟩ = some (.int .i64 d.files[k].synced) := (hbw.cell (p := ⟨b, off + k * 3 + 2, none⟩) hbl).trans t2
          have hs := (unhide HSM _ (List.getElem_mem hlt)).1
          have hlt1 : (k : Int) < (d.files.length : Int) := by omega
          have hnx := names_take hlt
          have HNX := hide hnx
          clear t0 t1 t2 hcl hnx
          generalize hn0 : d.files[k].name = n0 at x0 hs HNX
          generalize d.files[k].data = d0 at x1
          generalize d.files[k].synced = s0 at x2
          have hal := (Below.refl wr.heap.size wr).alloc (Nat.le_refl _) (Obj.cells #[.string n0, .string d0, .int .i64 s0] 56)
          have OWN1 := hide (own_below hown hal)
          have BW1 := hide (belows hbw hal)
          clear hown hbw hal hn0
          have hown3 := unhide OWN1
          have hb3 := unhide BW1
          have hs3 := hb3.size
          clear OWN1 BW1
          go_wp2_with (at_builtin; refine wpList_append_own _ rfl _ _ 30 rfl w.heap.size 9 i0 (.string ByteArray.empty) 1 16 Try.underlying30 hi hz0 hz1 hz2 rfl (by decide) _ _ _ rfl (hown3.alloc _) ⟨wr.heap.size + 1, 0, none⟩ 1 1 [.string n0] rfl rfl ?c1 ?c2 ?c3 ?c4 ?c5 ?_)
          case c1 =>
            intro j u hj
            match j, hj with
            | 0, hj =>
              simp at hj
              subst hj
              rw [Addr.add_lit, Nat.zero_add]
              have := (Blk.new (wr.alloc (Obj.cells #[.string n0, .string d0, .int .i64 s0] 56)) 9 #[.string n0]).cell 0
              simp only [World.size_alloc] at this
              rw [this]
              rfl
          case c2 => intro u hu; simp at hu; subst hu; rfl
          case c3 => unfold maxLen; omega
          case c4 => omega
          case c5 => simp; omega
          intro v' w4 hown' hgrow _
          have hb4 : Below w.heap.size w w4 := (hb3.alloc hs3 _).grown hgrow (by simp; omega) (fun g hg => (hown3.lt g hg).1)
          have O4 : Hid (w4.ownsRow w.heap.size 9 1 v' (k + 1) (cellsS ((d.files.take (k + 1)).map fun f => f.name))) := by
            rw [unhide HNX, ← cellsS_snoc, List.map_take]
            exact hide hown'
          have B4 := hide hb4
          clear hown' hb4 hown3 hb3 hgrow
          go_wp2
          exact ⟨⟨k + 1, by go_num, by omega, unhide O4, unhide B4⟩, by simp [intOf]; omega⟩
      · have hke : k = d.files.length := by omega
        have htl : d.files.take k = d.files := by rw [hke]; simp
        rw [htl] at hown
        have hrs := rowS_of_own (l := d.files.map fun f => f.name) (by rw [List.length_map, ← hke]; exact hown) (by rw [List.length_map]; omega) (fun s hs => by
          obtain ⟨f, hf, rfl⟩ := List.mem_map.1 hs
          have := (unhide HSM f hf).1
          omega)
        have HR := hide hrs
        have HBW := hide hbw
        clear hown hbw hrs htl
        go_wp2
        go_ret2
        exact ⟨_, rfl, unhide HR, unhide HBW⟩
  · have hw : listR d = ([], ready d) := by
      unfold ready at hrdy ⊢
      unfold listR
      by_cases h0 : right d = false
      · rw [if_pos h0, if_pos h0]
      · rw [if_neg h0, if_neg h0]
        rw [if_neg h0] at hrdy
        by_cases h1 : d.down = true
        · rw [if_pos h1, if_pos h1]
        · rw [if_neg h1] at hrdy; omega
    rw [hw]
    obtain ⟨a, cap, rfl, _, _, _⟩ := h
    simp only [fsV] at hrd ⊢
    have HRD := hide hrd
    have hne : ((ready d : Nat) : Int) ≠ 0 := by omega
    have hnb : (((ready d : Nat) : Int) == 0) = false := by simpa using hne
    generalize ready d = rc at *
    clear hrd hb z0 hrdy hw
    go_enter Try.func13, Try.ntmps13
    go_wp2_with fail
    refine (unhide HRD).mono ?_
    rintro e w1 ⟨rfl, b1⟩
    have B1 := hide (below_alloc' b1)
    clear b1
    go_wp2
    go_ret2
    exact ⟨_, rfl, hno _, unhide B1⟩
end Go.Proofs.Ytmfkhbofmaonkaa
