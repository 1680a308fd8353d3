/-
  What the document's without does (missiveref04), over this seat's program.
-/
import Derived.Test.YtmfkhbofmaonkaaDqf
set_option linter.unusedVariables false
set_option linter.unusedSimpArgs false
namespace Go.Proofs.Ytmfkhbofmaonkaa
open Go.RowKit Go.Proofs.Dsk

/-- Files of other names. -/
def woL (l : List File) (n : ByteArray) : List File := l.filter fun f => decide (f.name ≠ n)
theorem woL_take {l : List File} {k : Nat} (h : k < l.length) (n : ByteArray) : woL (l.take (k + 1)) n = woL (l.take k) n ++ (if l[k].name = n then [] else [l[k]]) := by
  unfold woL
  rw [List.take_succ_eq_append_getElem h, List.filter_append]
  by_cases he : l[k].name = n
  · simp [he]
  · simp [he]
theorem woL_len (l : List File) (n : ByteArray) : (woL l n).length ≤ l.length := List.length_filter_le _ _

set_option maxHeartbeats 4000000 in
set_option maxRecDepth 100000 in
theorem refWithout_any (l : List File) (v : Value) (n : ByteArray) (w : World) (hl : l.length ≤ 1048576) (h : RowF w v l) :
    Calls Try.prog 49 #[v, .string n] w fun e w' => ∃ v', e = .returned v' ∧ w'.ownsRow w.heap.size 56 3 v' (woL l n).length (flatF (woL l n)) ∧ Below w.heap.size w w' := by
  obtain ⟨i0, hi, hz0, hz1, hz2⟩ := info_parts fileInfo
  obtain ⟨a, cap, rfl, h63, _, hc⟩ := h
  have HC := hide hc
  clear hc
  go_enter Try.func49, Try.ntmps49
  go_wp2
  go_loopw [5, 7, 10] (fun x y z wr => ∃ (k m : Nat), z = .int .i64 k ∧ k ≤ l.length ∧ m ≤ k ∧ Hid ((woL (l.take k) n).length = m) ∧ wr.ownsRow w.heap.size 56 3 x m (flatF (woL (l.take k) n)) ∧ Hid (Below w.heap.size w wr)) (fun _ _ z _ => l.length - (intOf z).toNat)
  case atStart => exact ⟨0, 0, rfl, Nat.zero_le _, Nat.le_refl _, hide (by simp [woL]), ⟨by simp [woL, flatF], Or.inl ⟨rfl, rfl⟩⟩, hide (Below.refl _ _)⟩
  case round =>
    obtain ⟨k, m, rfl, hk, hmk, HM, hown, HB⟩ := hrel
    have hbs := (unhide HB).size
    by_cases hlt : k < l.length
    · obtain ⟨b, off, rfl, hb, hcl⟩ : ∃ b off, a = some ⟨b, off, none⟩ ∧ b < w.heap.size ∧ ∀ j u, (flatF l)[j]? = some u → w.cell? ⟨b, off + j, none⟩ = some u := by
        rcases unhide HC with h0 | h0
        · rw [h0] at hlt; simp at hlt
        · exact h0
      obtain ⟨p0, p1, p2⟩ := row_cells hcl hlt
      have y0 : wr.cell? ⟨b, off + k * 3, none⟩ = some (.string l[k].name) := ((unhide HB).cell (p := ⟨b, off + k * 3, none⟩) hb).trans p0
      have y1 : wr.cell? ⟨b, off + k * 3 + 1, none⟩ = some (.string l[k].data) := ((unhide HB).cell (p := ⟨b, off + k * 3 + 1, none⟩) hb).trans p1
      have y2 : wr.cell? ⟨b, off + k * 3 + 2, none⟩ = some (.int .i64 l[k].synced) := ((unhide HB).cell (p := ⟨b, off + k * 3 + 2, none⟩) hb).trans p2
      have hlt1 : (k : Int) < (l.length : Int) := by omega
      have beq := beqS l[k].name n
      have hnx := woL_take hlt n
      clear p0 p1 p2 hcl
      by_cases he : l[k].name = n
      · rw [if_pos he, List.append_nil] at hnx
        have hal := (Below.refl wr.heap.size wr).alloc (Nat.le_refl _) (Obj.cells #[.string l[k].name, .string l[k].data, .int .i64 l[k].synced] 56)
        have HBA := hide (belows (unhide HB) hal)
        have HO : Hid (World.ownsRow (wr.alloc (Obj.cells #[.string l[k].name, .string l[k].data, .int .i64 l[k].synced] 56)) w.heap.size 56 3 u5 m (flatF (woL (l.take (k + 1)) n)) ∧ (woL (l.take (k + 1)) n).length = m) := by
          rw [hnx]
          exact hide ⟨own_below hown hal, unhide HM⟩
        rw [decide_eq_true he] at beq
        clear he hnx hown hal
        generalize l[k].name = n0 at y0 beq HBA HO
        generalize l[k].data = d0 at y1 HBA HO
        generalize l[k].synced = s0 at y2 HBA HO
        go_wp2
        exact ⟨⟨k + 1, m, by go_num, by omega, by omega, hide (unhide HO).2, (unhide HO).1, HBA⟩, by simp [intOf]; omega⟩
      · rw [if_neg he] at hnx
        have hal := (Below.refl wr.heap.size wr).alloc (Nat.le_refl _) (Obj.cells #[.string l[k].name, .string l[k].data, .int .i64 l[k].synced] 56)
        have hba := belows (unhide HB) hal
        have hown3 := own_below hown hal
        have HNX : Hid (flatF (woL (l.take k) n) ++ cellsF l[k] = flatF (woL (l.take (k + 1)) n) ∧ (woL (l.take (k + 1)) n).length = m + 1) := hide (by
          rw [hnx, flatF_append, List.length_append, unhide HM]
          exact ⟨by simp [flatF], rfl⟩)
        rw [decide_eq_false he] at beq
        have hss := hba.size
        clear he hnx hown hal
        generalize hfk : l[k] = f at y0 y1 y2 beq hown3 hba HNX hss
        obtain ⟨n0, d0, s0⟩ := f
        simp only [cellsF] at y0 y1 y2 beq hown3 hba HNX hss
        clear hfk
        have HBA := hide hba
        clear hba
        go_wp2_with (at_builtin; refine wpList_append_own _ rfl _ _ 22 rfl w.heap.size 56 i0 (.agg #[.string ByteArray.empty, .string ByteArray.empty, .int .i64 0]) 3 40 Try.underlying22 hi hz0 hz1 hz2 rfl (by decide) _ _ _ rfl (hown3.alloc _) ⟨wr.heap.size + 1, 0, none⟩ 1 1 [.string n0, .string d0, .int .i64 s0] rfl rfl ?c1 ?c2 ?c3 ?c4 ?c5 ?_)
        case c1 =>
          intro j u hj
          rw [Addr.add_lit, Nat.zero_add]
          have := (Blk.new (wr.alloc (Obj.cells #[.string n0, .string d0, .int .i64 s0] 56)) 56 #[.string n0, .string d0, .int .i64 s0]).cell j
          simp only [World.size_alloc] at this
          rw [this]
          simpa using hj
        case c2 => intro u hu; simp at hu; rcases hu with rfl | rfl | rfl <;> rfl
        case c3 => unfold maxLen; omega
        case c4 => omega
        case c5 => simp; omega
        intro v' w4 hown' hgrow _
        have hb4 : Below w.heap.size w w4 := ((unhide HBA).alloc hss _).grown hgrow (by simp; omega) (fun g hg => (hown3.lt g hg).1)
        rw [(unhide HNX).1] at hown'
        have O4 := hide hown'
        have B4 := hide hb4
        clear hown' hb4 hown3 hgrow HBA
        go_wp2
        exact ⟨⟨k + 1, m + 1, by go_num, by omega, by omega, hide (unhide HNX).2, unhide O4, B4⟩, by simp [intOf]; omega⟩
    · have hke : k = l.length := by omega
      have htl : l.take k = l := by rw [hke]; simp
      have hm := unhide HM
      rw [htl] at hown hm
      rw [← hm] at hown
      have HO := hide hown
      clear hown htl hm
      go_wp2
      go_ret
      exact ⟨_, rfl, unhide HO, unhide HB⟩
end Go.Proofs.Ytmfkhbofmaonkaa
