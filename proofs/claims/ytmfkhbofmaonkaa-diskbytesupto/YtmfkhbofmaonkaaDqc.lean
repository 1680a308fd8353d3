/-
  What the document's Named, Find, used and as do (missiveref04), over this seat's program.
-/
import Derived.Test.YtmfkhbofmaonkaaDqa
import Derived.Test.YtmfkhbofmaonkaaDmk
set_option linter.unusedVariables false
set_option linter.unusedSimpArgs false
namespace Go.Proofs.Ytmfkhbofmaonkaa
open Go.RowKit Go.Proofs.Dsk

set_option maxHeartbeats 400000 in
theorem refNamed_any (s : ByteArray) (w : World) (hs : s.size ≤ 9223372036854775807) :
    Calls Try.prog 40 #[.string s] w fun e w' => e = .returned (.bool (named s)) ∧ w' = w := by
  by_cases h0 : s.size = 0
  · have he : s = ByteArray.empty := by apply ext_toList; have := sizeL s; rw [h0] at this; rw [List.eq_nil_of_length_eq_zero this]; rfl
    subst he
    go_enter Try.func40, Try.ntmps40
    go_wp2
    go_ret
    exact ⟨rfl, rfl⟩
  · have hn : ¬ s.toList = [] := by
      intro he
      rw [ByteArray.toList_eq] at he
      have := sizeL s
      rw [he] at this
      exact h0 (by simpa using this.symm)
    have hn2 : s.toList.isEmpty = false := by simpa using hn
    have hnm : named s = decide (s.size ≤ 64) := by simp [named, h0]
    have HN := hide hnm
    by_cases h64 : s.size ≤ 64
    · go_enter Try.func40, Try.ntmps40
      go_wp2
      go_ret
      exact ⟨by rw [unhide HN]; simp; omega, rfl⟩
    · go_enter Try.func40, Try.ntmps40
      go_wp2
      go_ret
      exact ⟨by rw [unhide HN]; simp; omega, rfl⟩


set_option maxHeartbeats 2000000 in
set_option maxRecDepth 100000 in
theorem refFind_any (l : List File) (v : Value) (n : ByteArray) (w : World) (hri : Rise l) (h : RowF w v l) :
    Calls Try.prog 41 #[v, .string n] w fun e w' => e = .returned (.int .i64 (if has l n = true then (lb l n : Int) else -1)) ∧ Below w.heap.size w w' := by
  obtain ⟨a, cap, rfl, h63, _, hc⟩ := h
  have HC := hide hc
  have HRI := hide hri
  generalize hres : (if has l n = true then (lb l n : Int) else -1) = res
  have HRES := hide hres
  clear hc hri hres
  go_enter Try.func41, Try.ntmps41
  go_wp2
  go_loopw [5, 6, 9] (fun x y z wr => ∃ k : Nat, z = .int .i64 k ∧ k ≤ l.length ∧ Hid (∀ j (h : j < l.length), j < k → l[j].name ≠ n) ∧ Hid (Below w.heap.size w wr)) (fun _ _ z _ => l.length - (intOf z).toNat)
  case atStart => exact ⟨0, rfl, Nat.zero_le _, hide (fun j _ h => by omega), hide (Below.refl _ _)⟩
  case round =>
    obtain ⟨k, rfl, hk, HN, HB⟩ := hrel
    by_cases hlt : k < l.length
    · obtain ⟨b, off, rfl, hb, hcl⟩ : ∃ b off, a = some ⟨b, off, none⟩ ∧ b < w.heap.size ∧ ∀ j u, (flatF l)[j]? = some u → w.cell? ⟨b, off + j, none⟩ = some u := by
        rcases unhide HC with h0 | h0
        · rw [h0] at hlt; simp at hlt
        · exact h0
      obtain ⟨p0, p1, p2⟩ := row_cells hcl hlt
      have y0 : wr.cell? ⟨b, off + k * 3, none⟩ = some (.string l[k].name) := ((unhide HB).cell (p := ⟨b, off + k * 3, none⟩) hb).trans p0
      have y1 : wr.cell? ⟨b, off + k * 3 + 1, none⟩ = some (.string l[k].data) := ((unhide HB).cell (p := ⟨b, off + k * 3 + 1, none⟩) hb).trans p1
      have y2 : wr.cell? ⟨b, off + k * 3 + 2, none⟩ = some (.int .i64 l[k].synced) := ((unhide HB).cell (p := ⟨b, off + k * 3 + 2, none⟩) hb).trans p2
      have hlt1 : (k : Int) < (l.length : Int) := by omega
      have beq := beqS l[k].name n
      have HBA := hide (belows (unhide HB) ((Below.refl wr.heap.size wr).alloc (Nat.le_refl _) (Obj.cells #[.string l[k].name, .string l[k].data, .int .i64 l[k].synced] 56)))
      clear p0 p1 p2 hcl
      by_cases he : l[k].name = n
      · have hlb := at_lb (unhide HRI) hlt he
        have hh : has l n = true := has_iff.2 ⟨_, List.getElem_mem hlt, he⟩
        have HR : Hid ((k : Int) = res) := hide (by rw [← unhide HRES, if_pos hh, hlb])
        rw [decide_eq_true he] at beq
        clear he hlb hh HRES
        generalize l[k].name = n0 at y0 beq HBA
        generalize l[k].data = d0 at y1 HBA
        generalize l[k].synced = s0 at y2 HBA
        go_wp2
        go_ret
        exact ⟨by rw [← unhide HR]; rfl, unhide HBA⟩
      · have HN2 : Hid (∀ j (h : j < l.length), j < k + 1 → l[j].name ≠ n) := hide (fun j h hj => by
          rcases Nat.lt_or_ge j k with h1 | h1
          · exact unhide HN j h h1
          · obtain rfl : j = k := by omega
            exact he)
        rw [decide_eq_false he] at beq
        clear he HN
        generalize l[k].name = n0 at y0 beq HBA
        generalize l[k].data = d0 at y1 HBA
        generalize l[k].synced = s0 at y2 HBA
        go_wp2
        exact ⟨⟨k + 1, by go_num, by omega, HN2, HBA⟩, by simp [intOf]; omega⟩
    · have hke : k = l.length := by omega
      have hh : has l n = false := by
        rw [← Bool.not_eq_true]
        intro hc
        obtain ⟨f, hf, hfn⟩ := has_iff.1 hc
        obtain ⟨j, hj, rfl⟩ := List.getElem_of_mem hf
        exact unhide HN j hj (by omega) hfn
      have HR : Hid ((-1 : Int) = res) := hide (by rw [← unhide HRES, if_neg (by simp [hh])])
      clear hh HN HRES
      go_wp2
      go_ret
      exact ⟨by rw [← unhide HR]; rfl, unhide HB⟩

set_option maxHeartbeats 2000000 in
set_option maxRecDepth 100000 in
theorem refUsed_any (l : List File) (v : Value) (room : Int) (w : World) (h0 : 0 ≤ room) (h1 : room ≤ 16777216) (h : RowF w v l) :
    Calls Try.prog 53 #[v, .int .i64 room] w fun e w' => e = .returned (.int .i64 (if (used l : Int) ≤ room then (used l : Int) else room + 1)) ∧ Below w.heap.size w w' := by
  obtain ⟨a, cap, rfl, h63, hff, hc⟩ := h
  have HC := hide hc
  have HFF := hide hff
  generalize hres : (if (used l : Int) ≤ room then (used l : Int) else room + 1) = res
  have HRES := hide hres
  clear hc hff hres
  go_enter Try.func53, Try.ntmps53
  go_wp2
  go_loopw [5, 7, 10] (fun x y z wr => ∃ k : Nat, z = .int .i64 k ∧ k ≤ l.length ∧ x = .int .i64 (used (l.take k) : Nat) ∧ (used (l.take k) : Int) ≤ room ∧ Hid (Below w.heap.size w wr)) (fun _ _ z _ => l.length - (intOf z).toNat)
  case atStart => exact ⟨0, rfl, Nat.zero_le _, by simp [used], by simpa [used] using h0, hide (Below.refl _ _)⟩
  case round =>
    obtain ⟨k, rfl, hk, rfl, hu, HB⟩ := hrel
    by_cases hlt : k < l.length
    · obtain ⟨b, off, rfl, hb, hcl⟩ : ∃ b off, a = some ⟨b, off, none⟩ ∧ b < w.heap.size ∧ ∀ j u, (flatF l)[j]? = some u → w.cell? ⟨b, off + j, none⟩ = some u := by
        rcases unhide HC with h0 | h0
        · rw [h0] at hlt; simp at hlt
        · exact h0
      obtain ⟨p0, p1, p2⟩ := row_cells hcl hlt
      have y0 : wr.cell? ⟨b, off + k * 3, none⟩ = some (.string l[k].name) := ((unhide HB).cell (p := ⟨b, off + k * 3, none⟩) hb).trans p0
      have y1 : wr.cell? ⟨b, off + k * 3 + 1, none⟩ = some (.string l[k].data) := ((unhide HB).cell (p := ⟨b, off + k * 3 + 1, none⟩) hb).trans p1
      have y2 : wr.cell? ⟨b, off + k * 3 + 2, none⟩ = some (.int .i64 l[k].synced) := ((unhide HB).cell (p := ⟨b, off + k * 3 + 2, none⟩) hb).trans p2
      have hlt1 : (k : Int) < (l.length : Int) := by omega
      have HBA := hide (belows (unhide HB) ((Below.refl wr.heap.size wr).alloc (Nat.le_refl _) (Obj.cells #[.string l[k].name, .string l[k].data, .int .i64 l[k].synced] 56)))
      have ht := used_take hlt
      have hz := (unhide HFF _ (List.getElem_mem hlt)).2.1
      have hul := used_le l (k + 1)
      clear p0 p1 p2 hcl
      by_cases he : (l[k].data.size : Int) > room - (used (l.take k) : Int)
      · have HR : Hid (room + 1 = res) := hide (by rw [← unhide HRES, if_neg (by omega)])
        have hd : decide ((l[k].data.size : Int) > room - (used (l.take k) : Int)) = true := decide_eq_true he
        clear HRES ht hul
        generalize used (l.take k) = U at *
        generalize l[k].name = n0 at y0 HBA
        generalize l[k].data = d0 at y1 HBA he hd hz
        generalize l[k].synced = s0 at y2 HBA
        go_wp2
        go_ret
        exact ⟨by rw [← unhide HR]; rfl, unhide HBA⟩
      · have hd : decide ((l[k].data.size : Int) > room - (used (l.take k) : Int)) = false := decide_eq_false he
        have HT : Hid (used (l.take k) + l[k].data.size = used (l.take (k + 1))) := hide ht.symm
        have hs16 : (l[k].data.size : Int) ≤ 16777216 := by omega
        have hu2 : (used (l.take k) : Int) ≤ 16777216 := by omega
        have hsum : (used (l.take k) : Int) + (l[k].data.size : Int) ≤ room := by omega
        clear ht hul hz
        generalize hU : used (l.take k) = U at *
        generalize l[k].name = n0 at y0 HBA
        generalize l[k].data = d0 at y1 HBA he hd hs16 hsum HT
        generalize l[k].synced = s0 at y2 HBA
        clear hU
        go_wp2
        exact ⟨⟨k + 1, by go_num, by omega, by rw [← unhide HT]; go_num, by rw [← unhide HT]; omega, HBA⟩, by simp [intOf]; omega⟩
    · have hke : k = l.length := by omega
      have htl : l.take k = l := by rw [hke]; simp
      rw [htl] at hu ⊢
      have HR : Hid ((used l : Int) = res) := hide (by rw [← unhide HRES, if_pos hu])
      clear htl HRES
      generalize used l = U at *
      go_wp2
      go_ret
      exact ⟨by rw [← unhide HR]; rfl, unhide HB⟩
end Go.Proofs.Ytmfkhbofmaonkaa
