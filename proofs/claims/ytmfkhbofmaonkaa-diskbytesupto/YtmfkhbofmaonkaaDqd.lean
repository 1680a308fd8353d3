/-
  What the document's Check does (missiveref04), over this seat's program.
-/
import Derived.Test.YtmfkhbofmaonkaaDqc
import Derived.Deep.QuietTactic
import Derived.BigQuiet
import Derived.Laws.Cover1
import Derived.Deep.RegionHeld3
set_option linter.unusedVariables false
set_option linter.unusedSimpArgs false
namespace Go.Proofs.Ytmfkhbofmaonkaa
open Go.RowKit Go.Proofs.Dsk

set_option maxHeartbeats 8000000 in
set_option maxRecDepth 100000 in
theorem refCheck_body (room fuse fault : Int) (down : Bool) (l : List File) (a : Option Addr) (cap : Nat) (w : World) (h1 : 0 ≤ room) (h2 : room ≤ 16777216) (h3 : l.length ≤ 1024) (h4 : -1 ≤ fuse) (h5 : -1 ≤ fault) (h6 : fuse ≤ 9223372036854775807) (h7 : fault ≤ 9223372036854775807) (h : RowF w (.slice a l.length cap) l) :
    Calls Try.prog 20 #[fsV ⟨room, l, fuse, fault, down⟩ (.slice a l.length cap)] w fun e w' => e = .returned (.int .i64 (if right ⟨room, l, fuse, fault, down⟩ then 0 else 2)) ∧ Below w.heap.size w w' := by
  have HH := hide (headOk_yes (d := ⟨room, l, fuse, fault, down⟩) |>.2 ⟨h1, h2, h3, h4, h5⟩)
  have HUS := hide (fun (X : World) (hX : RowF X (.slice a l.length cap) l) => refUsed_any l (.slice a l.length cap) room X h1 h2 hX)
  have hb0 : Below w.heap.size w (w.alloc (.cells #[.int .i64 room, .slice a l.length cap, .int .i64 fuse, .int .i64 fault, .bool down] 24)) := (Below.refl _ w).alloc (Nat.le_refl _) _
  have k0 := Blk.new w 24 #[.int .i64 room, .slice a l.length cap, .int .i64 fuse, .int .i64 fault, .bool down]
  have HROW := hide (h.below hb0)
  obtain ⟨_, _, hvv, _, hff, hc⟩ := h
  injection hvv with hv1 _ hv3
  subst hv1 hv3
  have HF := hide hff
  have HC := hide hc
  clear hff hc
  generalize hres : (if right ⟨room, l, fuse, fault, down⟩ then 0 else 2 : Int) = res
  have HR := hide hres
  clear hres
  have HBAD : Hid (right ⟨room, l, fuse, fault, down⟩ = false → (2 : Int) = res) := hide (fun hr => by
    have H := unhide HR
    rw [hr] at H
    exact H)
  obtain ⟨N, hN⟩ : ∃ N, l.length = N := ⟨_, rfl⟩
  have HN := hide hN
  rw [hN] at h3 HUS hb0 k0 HROW
  rw [hN]
  have d1 : decide (room < 0) = false := decide_eq_false (by omega)
  have d2 : decide (room > 16777216) = false := decide_eq_false (by omega)
  have d3 : decide ((N : Int) > 1024) = false := decide_eq_false (by omega)
  have d3n : decide (N > 1024) = false := decide_eq_false (by omega)
  have d3m : decide (1024 < N) = false := decide_eq_false (by omega)
  have d4 : decide (fuse < -1) = false := decide_eq_false (by omega)
  have d5 : decide (fault < -1) = false := decide_eq_false (by omega)
  have HK0 := hide k0
  have HB0 := hide hb0
  clear hN k0 hb0
  simp only [fsV]
  go_enter Try.func20, Try.ntmps20
  go_wp2
  generalize hW : w.alloc (.cells #[.int .i64 room, .slice a N cap, .int .i64 fuse, .int .i64 fault, .bool down] 24) = W at *
  clear hW
  have HX : Hid (∀ X, Below W.heap.size W X → (fun w' => w'.cell? ⟨w.heap.size, 0, none⟩ = some (.int .i64 room) ∧ w'.cell? ⟨w.heap.size, 1, none⟩ = some (.slice a N cap) ∧ w'.cell? ⟨w.heap.size, 2, none⟩ = some (.int .i64 fuse) ∧ w'.cell? ⟨w.heap.size, 3, none⟩ = some (.int .i64 fault)) X) := hide (fun X hX => by
    have k := (unhide HK0).below hX
    have c0 := k.cell 0
    have c1 := k.cell 1
    have c2 := k.cell 2
    have c3 := k.cell 3
    simp only [List.getElem?_toArray, List.getElem?_cons_succ, List.getElem?_cons_zero] at c0 c1 c2 c3
    exact ⟨c0, c1, c2, c3⟩)
  obtain ⟨c0, c1, c2, c3⟩ := unhide HX W (Below.refl _ _)
  by_cases hu : (used l : Int) ≤ room
  · have HU0 := hide hu
    rw [if_pos hu] at HUS
    have du : decide ((used l : Int) > room) = false := decide_eq_false (by omega)
    clear hu
    generalize used l = U at HUS du
    go_region_held3 (fun w' => w'.cell? ⟨w.heap.size, 0, none⟩ = some (.int .i64 room) ∧ w'.cell? ⟨w.heap.size, 1, none⟩ = some (.slice a N cap) ∧ w'.cell? ⟨w.heap.size, 2, none⟩ = some (.int .i64 fuse) ∧ w'.cell? ⟨w.heap.size, 3, none⟩ = some (.int .i64 fault)) (first | exact unhide HX _ bX | go_keep) (first | (go_at_call 53; refine (unhide HUS _ ((unhide HROW).below (below_dr1 (Below.refl _ _)))).mono ?_; rintro e w2 ⟨rfl, b2⟩; have bX : Below W.heap.size W w2 := ⟨b2.os, b2.tape, b2.output, b2.size, b2.block⟩))
    have HBX := hide bX
    have HB2 := hide (belows (unhide HB0) bX)
    clear bX b2 c0 c1 c2 c3 du
    go_wp2
    go_loopw [3, 4, 42] (fun x y z wr => ∃ k : Nat, z = .int .i64 k ∧ k ≤ N ∧ Hid ((l.take k).all fileOk = true ∧ Rise (l.take k)) ∧ Hid (Below W.heap.size W wr)) (fun _ _ z _ => N - (intOf z).toNat)
    case atStart => exact ⟨0, rfl, Nat.zero_le _, hide ⟨by simp, List.Pairwise.nil⟩, HBX⟩
    case round =>
      obtain ⟨k, rfl, hk, HV, HBW⟩ := hrel
      have HBE := hide (belows (unhide HB0) (unhide HBW))
      by_cases hlt : k < N
      · have hlt1 : (k : Int) < (N : Int) := by omega
        have hkl : k < l.length := by have := unhide HN; omega
        obtain ⟨b, off, rfl, hb, hcl⟩ : ∃ b off, a = some ⟨b, off, none⟩ ∧ b < w.heap.size ∧ ∀ j u, (flatF l)[j]? = some u → w.cell? ⟨b, off + j, none⟩ = some u := by
          rcases unhide HC with h0 | h0
          · rw [h0] at hkl; simp at hkl
          · exact h0
        obtain ⟨p0, p1, p2⟩ := row_cells hcl hkl
        have y0 : wr.cell? ⟨b, off + k * 3, none⟩ = some (.string l[k].name) := ((unhide HBE).cell (p := ⟨b, off + k * 3, none⟩) hb).trans p0
        have y1 : wr.cell? ⟨b, off + k * 3 + 1, none⟩ = some (.string l[k].data) := ((unhide HBE).cell (p := ⟨b, off + k * 3 + 1, none⟩) hb).trans p1
        have y2 : wr.cell? ⟨b, off + k * 3 + 2, none⟩ = some (.int .i64 l[k].synced) := ((unhide HBE).cell (p := ⟨b, off + k * 3 + 2, none⟩) hb).trans p2
        have c1 := (unhide HX _ (unhide HBW)).2.1
        have hal : Below wr.heap.size wr (wr.alloc (Obj.cells #[.string l[k].name, .string l[k].data, .int .i64 l[k].synced] 56)) := (Below.refl _ _).alloc (Nat.le_refl _) _
        have HBA := hide (belows (unhide HBW) hal)
        have HBZ := hide (belows (unhide HBE) hal)
        have HKF := hide (Blk.new wr 56 #[.string l[k].name, .string l[k].data, .int .i64 l[k].synced])
        obtain ⟨f1, f2, f3, f4⟩ := unhide HF _ (List.getElem_mem hkl)
        have hnm := fun w => refNamed_any l[k].name w f1
        have ht2 := rise_take hkl
        have ht3 := all_take hkl
        have hfo : fileOk l[k] = (named l[k].name && decide (0 ≤ l[k].synced) && decide (l[k].synced ≤ l[k].data.size)) := rfl
        have HBF : Hid (fileOk l[k] = false → (2 : Int) = res) := hide (fun hr => unhide HBAD (right_not_all (d := ⟨room, l, fuse, fault, down⟩) hkl hr))
        have HBR : Hid (¬ Rise (l.take (k + 1)) → (2 : Int) = res) := hide (fun hr => unhide HBAD (right_not_rise (d := ⟨room, l, fuse, fault, down⟩) hr))
        have hkb : k ≤ 1024 := by omega
        clear p0 p1 p2 hal
        by_cases n1 : named l[k].name = true
        · rw [n1] at hnm
          by_cases hk0 : k = 0
          · have g1 : decide (k > 0) = false := decide_eq_false (by omega)
            have g2 : decide (0 < k) = false := decide_eq_false (by omega)
            have g3 : decide ((k : Int) > 0) = false := decide_eq_false (by omega)
            have HK := hide hk0
            clear hk0
            by_cases s1 : 0 ≤ l[k].synced
            · have e1 : decide (l[k].synced < 0) = false := decide_eq_false (by omega)
              by_cases s2 : l[k].synced ≤ (l[k].data.size : Int)
              · have e2 : decide (l[k].synced > (l[k].data.size : Int)) = false := decide_eq_false (by omega)
                have HG : Hid ((l.take (k + 1)).all fileOk = true ∧ Rise (l.take (k + 1))) := hide ⟨by rw [ht3, (unhide HV).1, hfo, n1, decide_eq_true s1, decide_eq_true s2]; rfl, ht2.2 ⟨(unhide HV).2, Or.inl (unhide HK)⟩⟩
                clear s1 s2
                clear ht2 ht3 hfo HBF HBR HBAD hcl
                generalize l[k].name = n0 at *
                generalize l[k].data = d0 at *
                generalize l[k].synced = s0 at *
                go_wp2
                have o0 := (unhide HKF).cell 0
                have o1 := (unhide HKF).cell 1
                have o2 := (unhide HKF).cell 2
                simp only [List.getElem?_toArray, List.getElem?_cons_succ, List.getElem?_cons_zero] at o0 o1 o2
                have cq := (unhide HX _ (unhide HBA)).2.1
                clear y0 y1 y2 c1
                generalize wr.alloc (Obj.cells #[.string n0, .string d0, .int .i64 s0] 56) = Y at *
                go_quiet (first | (go_at_call 40; exact Calls.quiet_of_same (hnm _)))
                go_wp2
                exact ⟨⟨k + 1, by go_num, by omega, HG, hide (below_drN (unhide HBA) _)⟩, by simp [intOf]; omega⟩
              · have e2 : decide (l[k].synced > (l[k].data.size : Int)) = true := decide_eq_true (by omega)
                have HE := hide (unhide HBF (by rw [hfo, decide_eq_false s2]; simp))
                clear s1 s2
                clear ht2 ht3 hfo HBF HBR HBAD hcl
                generalize l[k].name = n0 at *
                generalize l[k].data = d0 at *
                generalize l[k].synced = s0 at *
                go_wp2
                have o0 := (unhide HKF).cell 0
                have o1 := (unhide HKF).cell 1
                have o2 := (unhide HKF).cell 2
                simp only [List.getElem?_toArray, List.getElem?_cons_succ, List.getElem?_cons_zero] at o0 o1 o2
                have cq := (unhide HX _ (unhide HBA)).2.1
                clear y0 y1 y2 c1
                generalize wr.alloc (Obj.cells #[.string n0, .string d0, .int .i64 s0] 56) = Y at *
                go_quiet (first | (go_at_call 40; exact Calls.quiet_of_same (hnm _)))
                go_wp2
                go_ret
                exact ⟨by rw [← unhide HE]; rfl, below_drN (unhide HBZ) _⟩
            · have e1 : decide (l[k].synced < 0) = true := decide_eq_true (by omega)
              have HE := hide (unhide HBF (by rw [hfo, decide_eq_false s1]; simp))
              clear s1
              clear ht2 ht3 hfo HBF HBR HBAD hcl
              generalize l[k].name = n0 at *
              generalize l[k].data = d0 at *
              generalize l[k].synced = s0 at *
              go_wp2
              have o0 := (unhide HKF).cell 0
              have o1 := (unhide HKF).cell 1
              have o2 := (unhide HKF).cell 2
              simp only [List.getElem?_toArray, List.getElem?_cons_succ, List.getElem?_cons_zero] at o0 o1 o2
              have cq := (unhide HX _ (unhide HBA)).2.1
              clear y0 y1 y2 c1
              generalize wr.alloc (Obj.cells #[.string n0, .string d0, .int .i64 s0] 56) = Y at *
              go_quiet (first | (go_at_call 40; exact Calls.quiet_of_same (hnm _)))
              go_wp2
              go_ret
              exact ⟨by rw [← unhide HE]; rfl, below_drN (unhide HBZ) _⟩
          · have g1 : decide (k > 0) = true := decide_eq_true (by omega)
            have g2 : decide (0 < k) = true := decide_eq_true (by omega)
            have g3 : decide ((k : Int) > 0) = true := decide_eq_true (by omega)
            have g4 : IntKind.i64.wrap ((k : Int) - 1) = ((k - 1 : Nat) : Int) := by rw [IntKind.wrap_i64]; omega
            have g5 : ((k - 1 : Nat) : Int) < (N : Int) := by omega
            obtain ⟨pz, _, _⟩ := row_cells hcl (show k - 1 < l.length by omega)
            have he1 : l[k - 1]! = l[k - 1] := getElem!_pos l _ (by omega)
            rw [he1] at ht2
            have b1 := lessS l[k - 1].name l[k].name
            have b2 := lessS l[k].name l[k - 1].name
            have b3 := beqS l[k - 1].name l[k].name
            have b4 := beqS l[k].name l[k - 1].name
            have HK := hide hk0
            obtain ⟨q, hq⟩ : ∃ q, k - 1 = q := ⟨_, rfl⟩
            clear he1 hk0
            by_cases o1 : lt l[k - 1].name l[k].name
            · rw [decide_eq_true o1] at b1
              rw [decide_eq_false (lt_asymm o1)] at b2
              rw [decide_eq_false (lt_ne o1)] at b3
              rw [decide_eq_false (fun e => lt_ne o1 e.symm)] at b4
              have HO := hide o1
              clear o1
              by_cases s1 : 0 ≤ l[k].synced
              · have e1 : decide (l[k].synced < 0) = false := decide_eq_false (by omega)
                by_cases s2 : l[k].synced ≤ (l[k].data.size : Int)
                · have e2 : decide (l[k].synced > (l[k].data.size : Int)) = false := decide_eq_false (by omega)
                  have HG : Hid ((l.take (k + 1)).all fileOk = true ∧ Rise (l.take (k + 1))) := hide ⟨by rw [ht3, (unhide HV).1, hfo, n1, decide_eq_true s1, decide_eq_true s2]; rfl, ht2.2 ⟨(unhide HV).2, Or.inr (unhide HO)⟩⟩
                  clear s1 s2
                  clear ht2 ht3 hfo HBF HBR HBAD hcl
                  (try clear HO)
                  generalize l[k - 1].name = pn at *
                  rw [hq] at g4 g5 pz
                  clear hq
                  generalize l[k].name = n0 at *
                  generalize l[k].data = d0 at *
                  generalize l[k].synced = s0 at *
                  go_wp2
                  have o0 := (unhide HKF).cell 0
                  have o1 := (unhide HKF).cell 1
                  have o2 := (unhide HKF).cell 2
                  simp only [List.getElem?_toArray, List.getElem?_cons_succ, List.getElem?_cons_zero] at o0 o1 o2
                  have cq := (unhide HX _ (unhide HBA)).2.1
                  have pq := ((unhide HBZ).cell (p := ⟨b, off + q * 3, none⟩) hb).trans pz
                  clear y0 y1 y2 c1
                  generalize wr.alloc (Obj.cells #[.string n0, .string d0, .int .i64 s0] 56) = Y at *
                  go_quiet (first | (go_at_call 40; exact Calls.quiet_of_same (hnm _)))
                  go_wp2
                  exact ⟨⟨k + 1, by go_num, by omega, HG, hide (below_drN (unhide HBA) _)⟩, by simp [intOf]; omega⟩
                · have e2 : decide (l[k].synced > (l[k].data.size : Int)) = true := decide_eq_true (by omega)
                  have HE := hide (unhide HBF (by rw [hfo, decide_eq_false s2]; simp))
                  clear s1 s2
                  clear ht2 ht3 hfo HBF HBR HBAD hcl
                  (try clear HO)
                  generalize l[k - 1].name = pn at *
                  rw [hq] at g4 g5 pz
                  clear hq
                  generalize l[k].name = n0 at *
                  generalize l[k].data = d0 at *
                  generalize l[k].synced = s0 at *
                  go_wp2
                  have o0 := (unhide HKF).cell 0
                  have o1 := (unhide HKF).cell 1
                  have o2 := (unhide HKF).cell 2
                  simp only [List.getElem?_toArray, List.getElem?_cons_succ, List.getElem?_cons_zero] at o0 o1 o2
                  have cq := (unhide HX _ (unhide HBA)).2.1
                  have pq := ((unhide HBZ).cell (p := ⟨b, off + q * 3, none⟩) hb).trans pz
                  clear y0 y1 y2 c1
                  generalize wr.alloc (Obj.cells #[.string n0, .string d0, .int .i64 s0] 56) = Y at *
                  go_quiet (first | (go_at_call 40; exact Calls.quiet_of_same (hnm _)))
                  go_wp2
                  go_ret
                  exact ⟨by rw [← unhide HE]; rfl, below_drN (unhide HBZ) _⟩
              · have e1 : decide (l[k].synced < 0) = true := decide_eq_true (by omega)
                have HE := hide (unhide HBF (by rw [hfo, decide_eq_false s1]; simp))
                clear s1
                clear ht2 ht3 hfo HBF HBR HBAD hcl
                (try clear HO)
                generalize l[k - 1].name = pn at *
                rw [hq] at g4 g5 pz
                clear hq
                generalize l[k].name = n0 at *
                generalize l[k].data = d0 at *
                generalize l[k].synced = s0 at *
                go_wp2
                have o0 := (unhide HKF).cell 0
                have o1 := (unhide HKF).cell 1
                have o2 := (unhide HKF).cell 2
                simp only [List.getElem?_toArray, List.getElem?_cons_succ, List.getElem?_cons_zero] at o0 o1 o2
                have cq := (unhide HX _ (unhide HBA)).2.1
                have pq := ((unhide HBZ).cell (p := ⟨b, off + q * 3, none⟩) hb).trans pz
                clear y0 y1 y2 c1
                generalize wr.alloc (Obj.cells #[.string n0, .string d0, .int .i64 s0] 56) = Y at *
                go_quiet (first | (go_at_call 40; exact Calls.quiet_of_same (hnm _)))
                go_wp2
                go_ret
                exact ⟨by rw [← unhide HE]; rfl, below_drN (unhide HBZ) _⟩
            · have HE := hide (unhide HBR (fun hr => by rcases (ht2.1 hr).2 with h | h; exact absurd h (unhide HK); exact absurd h o1))
              rw [decide_eq_false o1] at b1
              by_cases o2 : l[k - 1].name = l[k].name
              · rw [decide_eq_false (by rw [o2]; exact lt_irrefl _)] at b2
                rw [decide_eq_true o2] at b3
                rw [decide_eq_true o2.symm] at b4
                clear o1 o2
                clear ht2 ht3 hfo HBF HBR HBAD hcl
                (try clear HO)
                generalize l[k - 1].name = pn at *
                rw [hq] at g4 g5 pz
                clear hq
                generalize l[k].name = n0 at *
                generalize l[k].data = d0 at *
                generalize l[k].synced = s0 at *
                go_wp2
                have o0 := (unhide HKF).cell 0
                have o1 := (unhide HKF).cell 1
                have o2 := (unhide HKF).cell 2
                simp only [List.getElem?_toArray, List.getElem?_cons_succ, List.getElem?_cons_zero] at o0 o1 o2
                have cq := (unhide HX _ (unhide HBA)).2.1
                have pq := ((unhide HBZ).cell (p := ⟨b, off + q * 3, none⟩) hb).trans pz
                clear y0 y1 y2 c1
                generalize wr.alloc (Obj.cells #[.string n0, .string d0, .int .i64 s0] 56) = Y at *
                go_quiet (first | (go_at_call 40; exact Calls.quiet_of_same (hnm _)))
                go_wp2
                go_ret
                exact ⟨by rw [← unhide HE]; rfl, below_drN (unhide HBZ) _⟩
              · have o3 : lt l[k].name l[k - 1].name := by
                  by_cases h : lt l[k].name l[k - 1].name
                  · exact h
                  · exact absurd (lt_total o1 h) o2
                rw [decide_eq_true o3] at b2
                rw [decide_eq_false o2] at b3
                rw [decide_eq_false (fun e => o2 e.symm)] at b4
                clear o1 o2 o3
                clear ht2 ht3 hfo HBF HBR HBAD hcl
                (try clear HO)
                generalize l[k - 1].name = pn at *
                rw [hq] at g4 g5 pz
                clear hq
                generalize l[k].name = n0 at *
                generalize l[k].data = d0 at *
                generalize l[k].synced = s0 at *
                go_wp2
                have o0 := (unhide HKF).cell 0
                have o1 := (unhide HKF).cell 1
                have o2 := (unhide HKF).cell 2
                simp only [List.getElem?_toArray, List.getElem?_cons_succ, List.getElem?_cons_zero] at o0 o1 o2
                have cq := (unhide HX _ (unhide HBA)).2.1
                have pq := ((unhide HBZ).cell (p := ⟨b, off + q * 3, none⟩) hb).trans pz
                clear y0 y1 y2 c1
                generalize wr.alloc (Obj.cells #[.string n0, .string d0, .int .i64 s0] 56) = Y at *
                go_quiet (first | (go_at_call 40; exact Calls.quiet_of_same (hnm _)))
                go_wp2
                go_ret
                exact ⟨by rw [← unhide HE]; rfl, below_drN (unhide HBZ) _⟩
        · have n2 : named l[k].name = false := by simpa using n1
          rw [n2] at hnm
          have HE := hide (unhide HBF (by rw [hfo, n2]; rfl))
          clear n1 n2
          clear ht2 ht3 hfo HBF HBR HBAD hcl
          generalize l[k].name = n0 at *
          generalize l[k].data = d0 at *
          generalize l[k].synced = s0 at *
          go_wp2
          have o0 := (unhide HKF).cell 0
          have o1 := (unhide HKF).cell 1
          have o2 := (unhide HKF).cell 2
          simp only [List.getElem?_toArray, List.getElem?_cons_succ, List.getElem?_cons_zero] at o0 o1 o2
          have cq := (unhide HX _ (unhide HBA)).2.1
          clear y0 y1 y2 c1
          generalize wr.alloc (Obj.cells #[.string n0, .string d0, .int .i64 s0] 56) = Y at *
          go_quiet (first | (go_at_call 40; exact Calls.quiet_of_same (hnm _)))
          go_wp2
          go_ret
          exact ⟨by rw [← unhide HE]; rfl, below_drN (unhide HBZ) _⟩
      · have hke : k = N := by omega
        have htl : l.take k = l := by rw [hke, ← unhide HN]; simp
        have hv := unhide HV
        rw [htl] at hv
        have HE : Hid ((0 : Int) = res) := hide (by
          have H := unhide HR
          rw [right_yes (d := ⟨room, l, fuse, fault, down⟩) (unhide HH) (unhide HU0) hv.1 hv.2] at H
          exact H)
        clear htl hv
        go_wp2
        go_ret
        exact ⟨by rw [← unhide HE]; rfl, unhide HBE⟩
  · have HE := hide (unhide HBAD (by simp [right, hu]))
    rw [if_neg hu] at HUS
    have du : decide (room + 1 > room) = true := decide_eq_true (by omega)
    clear hu
    go_region_held3 (fun w' => w'.cell? ⟨w.heap.size, 0, none⟩ = some (.int .i64 room) ∧ w'.cell? ⟨w.heap.size, 1, none⟩ = some (.slice a N cap) ∧ w'.cell? ⟨w.heap.size, 2, none⟩ = some (.int .i64 fuse) ∧ w'.cell? ⟨w.heap.size, 3, none⟩ = some (.int .i64 fault)) (first | exact unhide HX _ bX | go_keep) (first | (go_at_call 53; refine (unhide HUS _ ((unhide HROW).below (below_dr1 (Below.refl _ _)))).mono ?_; rintro e w2 ⟨rfl, b2⟩; have bX : Below W.heap.size W w2 := ⟨b2.os, b2.tape, b2.output, b2.size, b2.block⟩))
    have HB2 := hide (belows (unhide HB0) bX)
    clear bX b2 c0 c1 c2 c3
    go_wp2
    go_ret
    exact ⟨by rw [← unhide HE]; rfl, unhide HB2⟩
end Go.Proofs.Ytmfkhbofmaonkaa
