/-
  What vari.List and the document's own List and Same do, over this seat's program: a list's bytes or the error; whether two lists are one.
-/
import Derived.Test.YtekcbkaanlngdabDoorRpt
import Derived.Test.YtekcbkaanlngdabDoorLnm
set_option linter.unusedVariables false
namespace Go.Proofs.YtekcbkaanlngdabDoor
open Go.RowKit Go.Proofs.Num

/-- The value v is a slice of uint32 whose elements are the numbers l. -/
def Row (w : World) (v : Value) (l : List Nat) : Prop :=
  ∃ (a : Option Addr) (cap : Nat), v = .slice a l.length cap ∧ l.length ≤ 9223372036854775807 ∧ (∀ n ∈ l, n ≤ 4294967295) ∧
    (l = [] ∨ ∃ b off, a = some ⟨b, off, none⟩ ∧ b < w.heap.size ∧ ∀ j (h : j < l.length), w.cell? ⟨b, off + j, none⟩ = some (.int .u32 (l[j] : Int)))

theorem Row.below {w w' : World} {v : Value} {l : List Nat} (h : Row w v l) (hb : Below w.heap.size w w') : Row w' v l := by
  obtain ⟨a, cap, hv, hl, hn, hc⟩ := h
  refine ⟨a, cap, hv, hl, hn, ?_⟩
  rcases hc with hc | ⟨b, off, ha, hlt, hc⟩
  · exact Or.inl hc
  · have := hb.size
    refine Or.inr ⟨b, off, ha, by omega, fun j hj => ?_⟩
    rw [hb.cell (p := ⟨b, off + j, none⟩) hlt]
    exact hc j hj

theorem gaps_at {least : Nat} {l : List Nat} {k : Nat} (hk : k < l.length) : gaps least (l.drop k) = if l[k] < least then none else (gaps (l[k] + 1) (l.drop (k + 1))).map (putL (l[k] - least) ++ ·) := by
  rw [List.drop_eq_getElem_cons hk]; rfl

set_option maxHeartbeats 1000000 in
set_option maxRecDepth 100000 in
theorem list_some (b off cap : Nat) (l : List Nat) (w : World) (h6 : l.length ≤ 65536) (hn : ∀ n ∈ l, n ≤ 4294967295) (hb : b < w.heap.size) (hc : ∀ j (h : j < l.length), w.cell? ⟨b, off + j, none⟩ = some (.int .u32 (l[j] : Int))) :
    Calls Tryd.prog 22 #[.slice (some ⟨b, off, none⟩) l.length cap] w fun e w' => e = .returned (.tuple #[.string (bts (listR l).1), .int .i64 (listR l).2]) ∧ Below w.heap.size w w' := by
  have hl10 := putL_len10 (n := l.length) (by omega)
  have HC := hide hc
  have HNN := hide hn
  clear hc hn
  go_enter Tryd.func22, Tryd.ntmps22
  go_wp2_with fail
  refine (write_any w.heap.size w.heap.size [] l.length _ (by omega) (Lib.IsBuilderF.of (Lib.fresh_isBuilder 58 5 w)) (by simp) (by simp)).mono ?_
  rintro e w1 ⟨rfl, h1, hb1, hk1⟩
  have hs1 := hb1.size
  simp at hs1 h1
  have hb1' : Below w.heap.size w w1 := ((Below.refl _ w).alloc (Nat.le_refl _) _).trans hb1
  go_wp2
  go_loopw [5, 7, 17] (fun x y z wr => ∃ (k least : Nat) (acc : List UInt8), z = .int .i64 k ∧ x = .int .u64 least ∧ k ≤ l.length ∧ least ≤ 4294967296 ∧ acc.length ≤ 10 + 10 * k ∧ (gaps least (l.drop k)).map (acc ++ ·) = (gaps 0 l).map (putL l.length ++ ·) ∧ Lib.IsBuilderF 58 5 w.heap.size w.heap.size (Lib.byteCells acc) wr ∧ Below w.heap.size w wr ∧ w.heap.size + 1 ≤ wr.heap.size) (fun _ _ z _ => l.length - (intOf z).toNat)
  case atStart => exact ⟨0, 0, putL l.length, rfl, rfl, Nat.zero_le _, by omega, by omega, rfl, h1, hb1', by omega⟩
  case round =>
    obtain ⟨k, least, acc, rfl, rfl, hk, hle, hal, hacc, hI, hbw, hsz⟩ := hrel
    have HA := hide hacc
    clear hacc
    by_cases hlt : k < l.length
    · have hcx : wr.cell? ⟨b, off + k, none⟩ = some (.int .u32 (l[k] : Int)) := (hbw.cell (p := ⟨b, off + k, none⟩) hb).trans (unhide HC k hlt)
      have h32 : l[k] ≤ 4294967295 := unhide HNN _ (List.getElem_mem hlt)
      by_cases hord : l[k] < least
      · have hg : gaps least (l.drop k) = none := by rw [gaps_at hlt, if_pos hord]
        have hfin : listR l = ([], 12) := by
          unfold listR
          have := unhide HA
          rw [hg] at this
          rw [if_neg (by omega), Option.map_eq_none_iff.1 this.symm]
        have HF := hide hfin
        clear hg hfin
        go_wp2
        go_ret2
        exact ⟨by rw [unhide HF]; rfl, hbw⟩
      · have hg : (gaps (l[k] + 1) (l.drop (k + 1))).map ((acc ++ putL (l[k] - least)) ++ ·) = (gaps 0 l).map (putL l.length ++ ·) := by
          rw [← unhide HA, gaps_at hlt, if_neg hord, Option.map_map]
          congr 1
          funext t
          simp
        have HG := hide hg
        have hp10 := putL_len10 (n := l[k] - least) (by omega)
        have hsub : (l[k] : Int) - (least : Int) = ((l[k] - least : Nat) : Int) := by omega
        clear hg
        go_wp2_with fail
        refine (write_any w.heap.size w.heap.size acc (l[k] - least) _ (by omega) hI (by omega) (by omega)).mono ?_
        rintro e w2 ⟨rfl, h2, hb2, hk2⟩
        have hs2 := hb2.size
        clear hsub
        go_wp2
        exact ⟨⟨k + 1, l[k] + 1, acc ++ putL (l[k] - least), by go_num, by go_num, by omega, by omega, by simp; omega, unhide HG, h2, hbw.trans hb2, by omega⟩, by simp [intOf]; omega⟩
    · have hke : k = l.length := by omega
      have hfin : listR l = (acc, 0) := by
        have := unhide HA
        rw [hke, List.drop_length] at this
        simp only [gaps, Option.map_some, List.append_nil] at this
        obtain ⟨g, hg, hg2⟩ := Option.map_eq_some_iff.1 this.symm
        unfold listR
        rw [if_neg (by omega), hg]
        simp only
        rw [hg2]
      have HF := hide hfin
      clear hfin hke
      go_wp2_with fail
      refine (Tryd.Builder_String_any_k w.heap.size w.heap.size acc _ hI (by omega)).mono ?_
      rintro e w2 ⟨rfl, _, hb2, _⟩
      go_wp2
      go_ret2
      exact ⟨by rw [unhide HF]; rfl, hbw.trans hb2⟩

set_option maxHeartbeats 1000000 in
set_option maxRecDepth 100000 in
theorem list_nil (a : Option Addr) (cap : Nat) (w : World) :
    Calls Tryd.prog 22 #[.slice a 0 cap] w fun e w' => e = .returned (.tuple #[.string (bts (listR []).1), .int .i64 (listR []).2]) ∧ Below w.heap.size w w' := by
  have HF := hide (show listR [] = (putL 0, 0) by simp [listR, gaps])
  go_enter Tryd.func22, Tryd.ntmps22
  go_wp2_with fail
  refine (write_any w.heap.size w.heap.size [] 0 _ (by omega) (Lib.IsBuilderF.of (Lib.fresh_isBuilder 58 5 w)) (by simp) (by simp)).mono ?_
  rintro e w1 ⟨rfl, h1, hb1, hk1⟩
  have hs1 := hb1.size
  simp at hs1 h1
  have hb1' : Below w.heap.size w w1 := ((Below.refl _ w).alloc (Nat.le_refl _) _).trans hb1
  go_wp2
  go_loopw [5, 7, 17] (fun x y z wr => z = .int .i64 0 ∧ Lib.IsBuilderF 58 5 w.heap.size w.heap.size (Lib.byteCells (putL 0)) wr ∧ Below w.heap.size w wr ∧ w.heap.size + 1 ≤ wr.heap.size) (fun _ _ z _ => 0)
  case atStart => exact ⟨rfl, h1, hb1', by omega⟩
  case round =>
    obtain ⟨rfl, hI, hbw, hsz⟩ := hrel
    go_wp2_with fail
    refine (Tryd.Builder_String_any_k w.heap.size w.heap.size (putL 0) _ hI (by omega)).mono ?_
    rintro e w2 ⟨rfl, _, hb2, _⟩
    go_wp2
    go_ret2
    exact ⟨by rw [unhide HF]; rfl, hbw.trans hb2⟩

set_option maxHeartbeats 400000 in
theorem list_long (a : Option Addr) (len cap : Nat) (w : World) (h6 : 65536 < len) (h63 : len ≤ 9223372036854775807) :
    Calls Tryd.prog 22 #[.slice a len cap] w fun e w' => e = .returned (.tuple #[.string (bts []), .int .i64 1]) ∧ Below w.heap.size w w' := by
  go_enter Tryd.func22, Tryd.ntmps22
  go_wp2
  go_ret2
  exact ⟨rfl, Below.refl _ _⟩

/-- vari.List answers the list's bytes, or the error. -/
theorem list_any (v : Value) (l : List Nat) (w : World) (h : Row w v l) :
    Calls Tryd.prog 22 #[v] w fun e w' => e = .returned (.tuple #[.string (bts (listR l).1), .int .i64 (listR l).2]) ∧ Below w.heap.size w w' := by
  obtain ⟨a, cap, rfl, hl, hn, hc⟩ := h
  by_cases h6 : 65536 < l.length
  · have := list_long a l.length cap w h6 hl
    have hr : listR l = ([], 1) := by unfold listR; rw [if_pos h6]
    rw [hr]
    exact this
  · rcases hc with rfl | ⟨b, off, rfl, hb, hc⟩
    · exact list_nil a cap w
    · exact list_some b off cap l w (by omega) hn hb hc
end Go.Proofs.YtekcbkaanlngdabDoor
