/-
  What missiveref04.Same does, over this seat's program: whether two file systems are one.
-/
import Derived.Test.YtmfkhbofmaonkaaDqz
import Derived.Deep.QuietTactic
import Derived.BigQuiet
set_option linter.unusedVariables false
set_option linter.unusedSimpArgs false
namespace Go.Proofs.Ytmfkhbofmaonkaa
open Go.RowKit Go.Proofs.Dsk

theorem takeF_next {l r : List File} {k : Nat} (hl : k < l.length) (hr : k < r.length) : l.take (k + 1) = r.take (k + 1) ↔ l.take k = r.take k ∧ l[k] = r[k] := by
  rw [List.take_succ_eq_append_getElem hl, List.take_succ_eq_append_getElem hr]
  constructor
  · intro h
    have := List.append_inj' h rfl
    exact ⟨this.1, by simpa using this.2⟩
  · rintro ⟨h1, h2⟩
    rw [h1, h2]

set_option maxHeartbeats 4000000 in
set_option maxRecDepth 100000 in
theorem refSame_any (d d' : Fs) (v v' : Value) (w : World) (h : RowF w v d.files) (h' : RowF w v' d'.files) :
    Calls Try.prog 17 #[fsV d v, fsV d' v'] w fun e w' => e = .returned (.bool (decide (d = d'))) ∧ Below w.heap.size w w' := by
  obtain ⟨a, cap, hv, h63, _, hc⟩ := h
  obtain ⟨a', cap', hv', h63', _, hc'⟩ := h'
  subst hv hv'
  obtain ⟨room, l, fuse, fault, down⟩ := d
  obtain ⟨room', l', fuse', fault', down'⟩ := d'
  simp only [fsV] at *
  by_cases hh : room = room' ∧ fuse = fuse' ∧ fault = fault' ∧ down = down' ∧ l.length = l'.length
  · obtain ⟨rfl, rfl, rfl, rfl, hll⟩ := hh
    have hdec : decide ((⟨room, l, fuse, fault, down⟩ : Fs) = ⟨room, l', fuse, fault, down⟩) = decide (l = l') := by
      by_cases e : l = l'
      · subst e; simp
      · rw [decide_eq_false e, decide_eq_false (fun h => e (by injection h))]
    rw [hdec]
    clear hdec
    rw [← hll] at h63' ⊢
    obtain ⟨N, hN⟩ : ∃ N, l.length = N := ⟨_, rfl⟩
    rw [hN] at h63 h63' ⊢
    have HC := hide hc
    have HC' := hide hc'
    have HN := hide hN
    have HLL := hide hll
    have e1 : (room == room) = true := by simp
    have e2 : (fuse == fuse) = true := by simp
    have e3 : (fault == fault) = true := by simp
    have e4 : (down == down) = true := by simp
    have e5 : ((N : Int) == (N : Int)) = true := by simp
    have hb0 : Below w.heap.size w ((w.alloc (Obj.cells #[.int .i64 room, .slice a N cap, .int .i64 fuse, .int .i64 fault, .bool down] 24)).alloc (Obj.cells #[.int .i64 room, .slice a' N cap', .int .i64 fuse, .int .i64 fault, .bool down] 24)) := ((Below.refl _ w).alloc (Nat.le_refl _) _).alloc (by simp) _
    have k0 := (Blk.new w 24 #[.int .i64 room, .slice a N cap, .int .i64 fuse, .int .i64 fault, .bool down]).below ((Below.refl _ _).alloc (Nat.le_refl _) (Obj.cells #[.int .i64 room, .slice a' N cap', .int .i64 fuse, .int .i64 fault, .bool down] 24))
    have k1 := Blk.new (w.alloc (Obj.cells #[.int .i64 room, .slice a N cap, .int .i64 fuse, .int .i64 fault, .bool down] 24)) 24 #[.int .i64 room, .slice a' N cap', .int .i64 fuse, .int .i64 fault, .bool down]
    simp only [World.size_alloc] at k1
    have K0 := hide k0
    have K1 := hide k1
    clear hc hc' hN hll k0 k1
    go_enter Try.func17, Try.ntmps17
    go_wp2
    generalize hW : (w.alloc (Obj.cells #[.int .i64 room, .slice a N cap, .int .i64 fuse, .int .i64 fault, .bool down] 24)).alloc (Obj.cells #[.int .i64 room, .slice a' N cap', .int .i64 fuse, .int .i64 fault, .bool down] 24) = W at *
    clear hW
    have HB0 := hide hb0
    clear hb0
    go_loopw [5, 44] (fun x z wr => ∃ k : Nat, z = .int .i64 k ∧ k ≤ N ∧ Hid (l.take k = l'.take k) ∧ Hid (Below W.heap.size W wr)) (fun _ z _ => N - (intOf z).toNat)
    case atStart => exact ⟨0, rfl, Nat.zero_le _, hide rfl, hide (Below.refl _ _)⟩
    case round =>
      obtain ⟨k, rfl, hk, HT, HBQ⟩ := hrel
      have HBE := hide (belows (unhide HB0) (unhide HBQ))
      by_cases hlt : k < N
      · have hlt1 : (k : Int) < (N : Int) := by omega
        have hkl : k < l.length := by have := unhide HN; omega
        have hkr : k < l'.length := by have := unhide HN; have := unhide HLL; omega
        obtain ⟨b, off, rfl, hb, hcl⟩ : ∃ b off, a = some ⟨b, off, none⟩ ∧ b < w.heap.size ∧ ∀ j u, (flatF l)[j]? = some u → w.cell? ⟨b, off + j, none⟩ = some u := by
          rcases unhide HC with h0 | h0
          · rw [h0] at hkl; simp at hkl
          · exact h0
        obtain ⟨b', off', rfl, hb', hcl'⟩ : ∃ b off, a' = some ⟨b, off, none⟩ ∧ b < w.heap.size ∧ ∀ j u, (flatF l')[j]? = some u → w.cell? ⟨b, off + j, none⟩ = some u := by
          rcases unhide HC' with h0 | h0
          · rw [h0] at hkr; simp at hkr
          · exact h0
        obtain ⟨p0, p1, p2⟩ := row_cells hcl hkl
        obtain ⟨r0, r1, r2⟩ := row_cells hcl' hkr
        have y0 : wr.cell? ⟨b, off + k * 3, none⟩ = some (.string l[k].name) := ((unhide HBE).cell (p := ⟨b, off + k * 3, none⟩) hb).trans p0
        have y1 : wr.cell? ⟨b, off + k * 3 + 1, none⟩ = some (.string l[k].data) := ((unhide HBE).cell (p := ⟨b, off + k * 3 + 1, none⟩) hb).trans p1
        have y2 : wr.cell? ⟨b, off + k * 3 + 2, none⟩ = some (.int .i64 l[k].synced) := ((unhide HBE).cell (p := ⟨b, off + k * 3 + 2, none⟩) hb).trans p2
        have u0 : wr.cell? ⟨b', off' + k * 3, none⟩ = some (.string l'[k].name) := ((unhide HBE).cell (p := ⟨b', off' + k * 3, none⟩) hb').trans r0
        have u1 : wr.cell? ⟨b', off' + k * 3 + 1, none⟩ = some (.string l'[k].data) := ((unhide HBE).cell (p := ⟨b', off' + k * 3 + 1, none⟩) hb').trans r1
        have u2 : wr.cell? ⟨b', off' + k * 3 + 2, none⟩ = some (.int .i64 l'[k].synced) := ((unhide HBE).cell (p := ⟨b', off' + k * 3 + 2, none⟩) hb').trans r2
        have c1 := ((unhide K0).below (unhide HBQ)).cell 1
        have c2 := ((unhide K1).below (unhide HBQ)).cell 1
        simp only [List.getElem?_toArray, List.getElem?_cons_succ, List.getElem?_cons_zero] at c1 c2
        clear p0 p1 p2 r0 r1 r2 hcl hcl'
        have hgf := guard_file
        have hnx := takeF_next hkl hkr
        have hnq := fun X => neqF l[k].name l'[k].name l[k].data l'[k].data l[k].synced l'[k].synced X
        by_cases he : l[k] = l'[k]
        · have HN2 := hide (hnx.2 ⟨unhide HT, he⟩)
          have hde : decide ((⟨l[k].name, l[k].data, l[k].synced⟩ : File) = ⟨l'[k].name, l'[k].data, l'[k].synced⟩) = true := decide_eq_true he
          rw [hde] at hnq
          clear hnx he hde
          generalize l[k].name = n0 at y0 hnq
          generalize l[k].data = d0 at y1 hnq
          generalize l[k].synced = s0 at y2 hnq
          generalize l'[k].name = n1 at u0 hnq
          generalize l'[k].data = d1 at u1 hnq
          generalize l'[k].synced = s1 at u2 hnq
          go_wp2
          go_quiet (fail)
          go_wp2
          exact ⟨⟨k + 1, by go_num, by omega, HN2, hide (below_drN (unhide HBQ) _)⟩, by simp [intOf]; omega⟩
        · have hde : decide ((⟨l[k].name, l[k].data, l[k].synced⟩ : File) = ⟨l'[k].name, l'[k].data, l'[k].synced⟩) = false := decide_eq_false he
          rw [hde] at hnq
          have hfin : decide (l = l') = false := by
            rw [decide_eq_false_iff_not]
            intro h
            subst h
            exact he rfl
          have HF := hide hfin
          clear hnx he hde hfin
          generalize l[k].name = n0 at y0 hnq
          generalize l[k].data = d0 at y1 hnq
          generalize l[k].synced = s0 at y2 hnq
          generalize l'[k].name = n1 at u0 hnq
          generalize l'[k].data = d1 at u1 hnq
          generalize l'[k].synced = s1 at u2 hnq
          go_wp2
          go_quiet (fail)
          go_wp2
          go_ret
          exact ⟨by rw [unhide HF]; rfl, below_drN (unhide HBE) _⟩
      · have hke : k = N := by omega
        have hall : l = l' := by
          have h1 := unhide HT
          rwa [List.take_of_length_le (by have := unhide HN; omega), List.take_of_length_le (by have := unhide HN; have := unhide HLL; omega)] at h1
        have hfin : decide (l = l') = true := decide_eq_true hall
        have HF := hide hfin
        clear hfin hall
        go_wp2
        go_ret
        exact ⟨by rw [unhide HF]; rfl, unhide HBE⟩
  · have hfin : decide ((⟨room, l, fuse, fault, down⟩ : Fs) = ⟨room', l', fuse', fault', down'⟩) = false := by
      rw [decide_eq_false_iff_not]
      intro h
      injection h with h1 h2 h3 h4 h5
      exact hh ⟨h1, h3, h4, h5, by rw [h2]⟩
    rw [hfin]
    have BZ : Hid (Below w.heap.size w ((w.alloc (Obj.cells #[.int .i64 room, .slice a l.length cap, .int .i64 fuse, .int .i64 fault, .bool down] 24)).alloc (Obj.cells #[.int .i64 room', .slice a' l'.length cap', .int .i64 fuse', .int .i64 fault', .bool down'] 24))) := hide (((Below.refl _ w).alloc (Nat.le_refl _) _).alloc (by simp) _)
    clear hfin hc hc'
    generalize l.length = n at *
    generalize l'.length = n' at *
    by_cases q1 : room = room'
    · by_cases q2 : fuse = fuse'
      · by_cases q3 : fault = fault'
        · by_cases q4 : down = down'
          · have q5 : ¬ n = n' := fun e => hh ⟨q1, q2, q3, q4, e⟩
            have e5 : ((n : Int) == (n' : Int)) = false := by simp; omega
            subst q1 q2 q3 q4
            have e1 : (room == room) = true := by simp
            have e2 : (fuse == fuse) = true := by simp
            have e3 : (fault == fault) = true := by simp
            have e4 : (down == down) = true := by simp
            clear hh
            go_enter Try.func17, Try.ntmps17
            go_wp2
            go_ret
            exact ⟨rfl, unhide BZ⟩
          · have e4 : (down == down') = false := by simpa using q4
            subst q1 q2 q3
            have e1 : (room == room) = true := by simp
            have e2 : (fuse == fuse) = true := by simp
            have e3 : (fault == fault) = true := by simp
            clear hh
            go_enter Try.func17, Try.ntmps17
            go_wp2
            go_ret
            exact ⟨rfl, unhide BZ⟩
        · have e3 : (fault == fault') = false := by simpa using q3
          subst q1 q2
          have e1 : (room == room) = true := by simp
          have e2 : (fuse == fuse) = true := by simp
          clear hh
          go_enter Try.func17, Try.ntmps17
          go_wp2
          go_ret
          exact ⟨rfl, unhide BZ⟩
      · have e2 : (fuse == fuse') = false := by simpa using q2
        subst q1
        have e1 : (room == room) = true := by simp
        clear hh
        go_enter Try.func17, Try.ntmps17
        go_wp2
        go_ret
        exact ⟨rfl, unhide BZ⟩
    · have e1 : (room == room') = false := by simpa using q1
      clear hh
      go_enter Try.func17, Try.ntmps17
      go_wp2
      go_ret
      exact ⟨rfl, unhide BZ⟩
end Go.Proofs.Ytmfkhbofmaonkaa
