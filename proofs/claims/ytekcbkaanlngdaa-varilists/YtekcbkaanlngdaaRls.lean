/-
  What the document's own List and Same do, over this seat's program.
-/
import Derived.Test.YtekcbkaanlngdaaLst
set_option linter.unusedVariables false
namespace Go.Proofs.Ytekcbkaanlngdaa
open Go.RowKit Go.Proofs.Num

/-- The least number that may stand at place k. -/
def leastAt (l : List Nat) (k : Nat) : Nat := if k = 0 then 0 else l.getD (k - 1) 0 + 1

theorem leastAt_next {l : List Nat} {k : Nat} (h : k < l.length) : leastAt l (k + 1) = l[k] + 1 := by
  simp [leastAt, List.getD, List.getElem?_eq_getElem h]

set_option maxHeartbeats 1000000 in
set_option maxRecDepth 100000 in
theorem refList_some (b off cap : Nat) (l : List Nat) (w : World) (h6 : l.length ≤ 65536) (hn : ∀ n ∈ l, n ≤ 4294967295) (hb : b < w.heap.size) (hc : ∀ j (h : j < l.length), w.cell? ⟨b, off + j, none⟩ = some (.int .u32 (l[j] : Int))) :
    Calls Try.prog 21 #[.slice (some ⟨b, off, none⟩) l.length cap] w fun e w' => e = .returned (.tuple #[.string (bts (listR l).1), .int .i64 (listR l).2]) ∧ Below w.heap.size w w' := by
  have hl10 := putL_len10 (n := l.length) (by omega)
  have HC := hide hc
  have HNN := hide hn
  clear hc hn
  go_enter Try.func21, Try.ntmps21
  go_wp2_with fail
  refine (refPut_any l.length _ (by omega)).mono ?_
  rintro e w1 ⟨rfl, hb1⟩
  go_wp2
  go_loopw [4, 5, 6, 16] (fun x y y2 z wr => ∃ (k : Nat) (acc : List UInt8), z = .int .i64 k ∧ x = .string (bts acc) ∧ k ≤ l.length ∧ acc.length ≤ 10 + 10 * k ∧ (gaps (leastAt l k) (l.drop k)).map (acc ++ ·) = (gaps 0 l).map (putL l.length ++ ·) ∧ Below w.heap.size w wr) (fun _ _ _ z _ => l.length - (intOf z).toNat)
  case atStart => exact ⟨0, putL l.length, rfl, rfl, Nat.zero_le _, by omega, rfl, hb1⟩
  case round =>
    obtain ⟨k, acc, rfl, rfl, hk, hal, hacc, hbw⟩ := hrel
    have HA := hide hacc
    clear hacc
    by_cases hlt : k < l.length
    · have hcx : wr.cell? ⟨b, off + k, none⟩ = some (.int .u32 (l[k] : Int)) := (hbw.cell (p := ⟨b, off + k, none⟩) hb).trans (unhide HC k hlt)
      have h32 : l[k] ≤ 4294967295 := unhide HNN _ (List.getElem_mem hlt)
      by_cases hz : k = 0
      · have hb0 : ((k : Int) == 0) = true := by simp [hz]
        have HZ := hide hz
        clear hz
        have hg : (gaps (leastAt l (k + 1)) (l.drop (k + 1))).map ((acc ++ putL l[k]) ++ ·) = (gaps 0 l).map (putL l.length ++ ·) := by
          rw [← unhide HA, gaps_at hlt, leastAt_next hlt, show leastAt l k = 0 by simp [leastAt, unhide HZ], if_neg (by omega), Option.map_map]
          congr 1
          funext t
          simp
        have HG := hide hg
        have hp10 := putL_len10 (n := l[k]) (by omega)
        clear hg
        go_wp2_with fail
        refine (refPut_any l[k] _ (by omega)).mono ?_
        rintro e w2 ⟨rfl, hb2⟩
        have hap := bts_append acc (putL l[k])
        have hss : (bts acc).size + (bts (putL l[k])).size ≤ 9223372036854775807 := by rw [size_bts, size_bts]; omega
        go_wp2
        exact ⟨⟨k + 1, acc ++ putL l[k], by go_num, rfl, by omega, by simp; omega, unhide HG, belows hbw hb2⟩, by simp [intOf]; omega⟩
      · obtain ⟨q, rfl⟩ : ∃ q, k = q + 1 := ⟨k - 1, by omega⟩
        have hcq : wr.cell? ⟨b, off + q, none⟩ = some (.int .u32 (l[q] : Int)) := (hbw.cell (p := ⟨b, off + q, none⟩) hb).trans (unhide HC q (by omega))
        have hb0 : (((q + 1 : Nat) : Int) == 0) = false := by simp; omega
        by_cases hord : l[q + 1] ≤ l[q]
        · have hg : gaps (leastAt l (q + 1)) (l.drop (q + 1)) = none := by rw [gaps_at hlt, leastAt_next (show q < l.length by omega), if_pos (by omega)]
          have hfin : listR l = ([], 12) := by
            unfold listR
            have := unhide HA
            rw [hg] at this
            rw [if_neg (by omega), Option.map_eq_none_iff.1 this.symm]
          have HF := hide hfin
          clear hg hfin
          go_wp2
          go_ret2
          exact ⟨by rw [unhide HF]; rfl, hbw⟩
        · have hg : (gaps (leastAt l (q + 1 + 1)) (l.drop (q + 1 + 1))).map ((acc ++ putL (l[q + 1] - (l[q] + 1))) ++ ·) = (gaps 0 l).map (putL l.length ++ ·) := by
            rw [← unhide HA, gaps_at hlt, leastAt_next hlt, leastAt_next (show q < l.length by omega), if_neg (by omega), Option.map_map]
            congr 1
            funext t
            simp
          have HG := hide hg
          have hp10 := putL_len10 (n := l[q + 1] - (l[q] + 1)) (by omega)
          have hsub : (l[q + 1] : Int) - (l[q] : Int) - 1 = ((l[q + 1] - (l[q] + 1) : Nat) : Int) := by omega
          clear hg
          go_wp2_with fail
          refine (refPut_any (l[q + 1] - (l[q] + 1)) _ (by omega)).mono ?_
          rintro e w2 ⟨rfl, hb2⟩
          have hap := bts_append acc (putL (l[q + 1] - (l[q] + 1)))
          have hss : (bts acc).size + (bts (putL (l[q + 1] - (l[q] + 1)))).size ≤ 9223372036854775807 := by rw [size_bts, size_bts]; omega
          clear hsub
          go_wp2
          exact ⟨⟨q + 1 + 1, acc ++ putL (l[q + 1] - (l[q] + 1)), by go_num, rfl, by omega, by simp; omega, unhide HG, belows hbw hb2⟩, by simp [intOf]; omega⟩
    · have hke : k = l.length := by omega
      have hfin : listR l = (acc, 0) := by
        have := unhide HA
        rw [hke, List.drop_length] at this
        simp only [gaps, Option.map_some, List.append_nil] at this
        obtain ⟨g, hg, hg2⟩ := Option.map_eq_some_iff.1 this.symm
        unfold listR
        rw [if_neg (by omega), hg]
        simp only
        rw [hg2]
      have HF := hide hfin
      clear hfin hke
      go_wp2
      go_ret2
      exact ⟨by rw [unhide HF]; rfl, hbw⟩

set_option maxHeartbeats 1000000 in
set_option maxRecDepth 100000 in
theorem refList_nil (a : Option Addr) (cap : Nat) (w : World) :
    Calls Try.prog 21 #[.slice a 0 cap] w fun e w' => e = .returned (.tuple #[.string (bts (listR []).1), .int .i64 (listR []).2]) ∧ Below w.heap.size w w' := by
  have HF := hide (show listR [] = (putL 0, 0) by simp [listR, gaps])
  go_enter Try.func21, Try.ntmps21
  go_wp2_with fail
  refine (refPut_any 0 _ (by omega)).mono ?_
  rintro e w1 ⟨rfl, hb1⟩
  go_wp2
  go_loopw [4, 5, 6, 16] (fun x y y2 z wr => x = .string (bts (putL 0)) ∧ z = .int .i64 0 ∧ Below w.heap.size w wr) (fun _ _ _ z _ => 0)
  case atStart => exact ⟨rfl, rfl, hb1⟩
  case round =>
    obtain ⟨rfl, rfl, hbw⟩ := hrel
    go_wp2
    go_ret2
    exact ⟨by rw [unhide HF]; rfl, hbw⟩

set_option maxHeartbeats 400000 in
theorem refList_long (a : Option Addr) (len cap : Nat) (w : World) (h6 : 65536 < len) (h63 : len ≤ 9223372036854775807) :
    Calls Try.prog 21 #[.slice a len cap] w fun e w' => e = .returned (.tuple #[.string (bts []), .int .i64 1]) ∧ Below w.heap.size w w' := by
  go_enter Try.func21, Try.ntmps21
  go_wp2
  go_ret2
  exact ⟨rfl, Below.refl _ _⟩

/-- The document's List answers the list's bytes, or the error. -/
theorem refList_any (v : Value) (l : List Nat) (w : World) (h : Row w v l) :
    Calls Try.prog 21 #[v] w fun e w' => e = .returned (.tuple #[.string (bts (listR l).1), .int .i64 (listR l).2]) ∧ Below w.heap.size w w' := by
  obtain ⟨a, cap, rfl, hl, hn, hc⟩ := h
  by_cases h6 : 65536 < l.length
  · have := refList_long a l.length cap w h6 hl
    have hr : listR l = ([], 1) := by unfold listR; rw [if_pos h6]
    rw [hr]
    exact this
  · rcases hc with rfl | ⟨b, off, rfl, hb, hc⟩
    · exact refList_nil a cap w
    · exact refList_some b off cap l w (by omega) hn hb hc
end Go.Proofs.Ytekcbkaanlngdaa
