/-
  What word.findWord and word.One do, over this seat's program.
-/
import Derived.Test.YtdallfakfhajdaaGreatDoorWrx
import Derived.Lib.IndexMore
set_option linter.unusedVariables false
namespace Go.Proofs.YtdallfakfhajdaaGreatDoor
open Go.RowKit Go.Proofs.Enc Go.Proofs.Rns

/-- The first word of a text that begins at some place: where it begins, its letters, how many bytes it has. -/
def fdW : List UInt8 → Nat → Nat × List Nat × Nat
  | [], k => (k, [], 0)
  | a :: r, k => if 0 < rdN (rdW (a :: r)) then (k, rdL (rdW (a :: r)), rdN (rdW (a :: r))) else fdW r (k + 1)
theorem rdN_none {l : List UInt8} (h : opW l = none) : ¬ 0 < rdN (rdW l) := by
  unfold rdW
  rw [h]
  simp [rdN]
theorem fdW_skip : ∀ (i : Nat) (l : List UInt8) (k : Nat), (∀ j, j < i → opW (l.drop j) = none) → i ≤ l.length → fdW l k = fdW (l.drop i) (k + i)
  | 0, l, k, _, _ => by simp
  | i + 1, [], k, _, h => by simp at h
  | i + 1, a :: r, k, h, hl => by
    have h0 := rdN_none (h 0 (by omega))
    simp only [List.drop_zero] at h0
    show (if 0 < rdN (rdW (a :: r)) then _ else fdW r (k + 1)) = _
    rw [if_neg h0, fdW_skip i r (k + 1) (fun j hj => by have := h (j + 1) (by omega); simpa using this) (by simpa using hl)]
    simp only [List.drop_succ_cons]
    rw [show k + 1 + i = k + (i + 1) by omega]
theorem occ_op (l : List UInt8) (j : Nat) : Lib.occAt l [61, 63] j = (opW (l.drop j)).isSome := opW_pre (l.drop j)
theorem fdW_no {l : List UInt8} {k : Nat} (h : ∀ j, j ≤ l.length → Lib.occAt l [61, 63] j = false) : fdW l k = (k + l.length, [], 0) := by
  rw [fdW_skip l.length l k (fun j hj => by
    have := h j (by omega)
    rw [occ_op] at this
    cases ho : opW (l.drop j) with
    | none => rfl
    | some r => rw [ho] at this; cases this) (Nat.le_refl _), List.drop_length]
  rfl
theorem fdW_to {l : List UInt8} {k i : Nat} (h : Lib.NoOcc l [61, 63] i) (hi : i ≤ l.length) : fdW l k = fdW (l.drop i) (k + i) :=
  fdW_skip i l k (fun j hj => by
    have := h j hj
    rw [occ_op] at this
    cases ho : opW (l.drop j) with
    | none => rfl
    | some r => rw [ho] at this; cases this) hi
theorem fdW_hit {l : List UInt8} {k : Nat} (h : 0 < rdN (rdW l)) : fdW l k = (k, rdL (rdW l), rdN (rdW l)) := by
  cases l with
  | nil => exact absurd h (rdN_none rfl)
  | cons a r => show (if 0 < rdN (rdW (a :: r)) then _ else fdW r (k + 1)) = _; rw [if_pos h]
theorem fdW_miss {l r : List UInt8} {k : Nat} (ho : opW l = some r) (h : ¬ 0 < rdN (rdW l)) : fdW l k = fdW (l.drop 2) (k + 2) := by
  unfold opW at ho
  rcases l with _ | ⟨a, _ | ⟨b, t⟩⟩
  · cases ho
  · cases ho
  · simp only at ho
    split at ho
    · rename_i hab
      obtain ⟨rfl, rfl⟩ := hab
      show (if 0 < rdN (rdW (61 :: 63 :: t)) then _ else fdW (63 :: t) (k + 1)) = _
      rw [if_neg h]
      show (if 0 < rdN (rdW (63 :: t)) then _ else fdW t (k + 1 + 1)) = _
      rw [if_neg (rdN_none (by unfold opW; cases t <;> simp))]
      rfl
    · cases ho

/-- The library's variable lies. -/
def MaxL (w : World) : Prop := 4 < w.heap.size ∧ ∃ m, w.cell? ⟨4, 0, none⟩ = some (.int .i64 m)
theorem MaxL.below {w w' : World} (h : MaxL w) (hb : Below w.heap.size w w') : MaxL w' := by
  obtain ⟨h1, m, h2⟩ := h
  have := hb.size
  exact ⟨by omega, m, (hb.cell (p := ⟨4, 0, none⟩) h1).trans h2⟩

set_option maxHeartbeats 4000000 in
set_option maxRecDepth 100000 in
theorem findWord_any (s : ByteArray) (w : World) (ht : RTabN w) (hes : ErrS w) (hml : MaxL w) (hs : s.size ≤ 40000000) :
    Calls Tryz.prog 78 #[.string s] w fun e w' => ∃ v, e = .returned (.tuple #[.int .i64 (fdW s.data.toList 0).1, v, .int .i64 (fdW s.data.toList 0).2.2]) ∧ w'.ownsRow w.heap.size 21 1 v (fdW s.data.toList 0).2.1.length (runeC (fdW s.data.toList 0).2.1) ∧ Below w.heap.size w w' := by
  have HT := hide ht
  have HES := hide hes
  have HML := hide hml
  clear ht hes hml
  go_enter Tryz.func78, Tryz.ntmps78
  go_wp2
  go_loopw [5, 6, 7, 8] (fun z y1 y2 y3 wr => ∃ k : Nat, z = .int .i64 k ∧ k ≤ s.size ∧ Hid (fdW s.data.toList 0 = fdW (s.data.toList.drop k) k) ∧ Hid (Below w.heap.size w wr)) (fun z _ _ _ _ => s.size - (intOf z).toNat)
  case atStart => exact ⟨0, rfl, by omega, hide (by simp), hide (Below.refl _ _)⟩
  case round =>
    obtain ⟨k, rfl, hk, HF, HB⟩ := hrel
    have hsl := fun W => slice_from s k k rfl hk W
    have HIX := hide (fun W (h : MaxL W) => Tryz.strings_Index (s.extract k s.size) (bts [61, 63]) h.2.choose W (by rw [size_part _ _ _ (Nat.le_refl _)]; omega) h.2.choose_spec)
    rw [toList_from, toList_bts] at HIX
    have hll : (s.data.toList.drop k).length = s.size - k := by rw [List.length_drop, sizeL]
    rcases Lib.index_spec (s.data.toList.drop k) [61, 63] with ⟨hi, hno⟩ | ⟨i, hi, hil, hoc, hno⟩
    · have HF2 : Hid (fdW s.data.toList 0 = (s.size, [], 0)) := hide (by rw [unhide HF, fdW_no hno, hll]; simp; omega)
      rw [hi] at HIX
      generalize s.extract k s.size = t1 at hsl HIX
      simp only [bts] at HIX
      clear hi hno HF
      go_wp2_with fail
      refine (unhide HIX _ ((unhide HML).below (unhide HB))).mono ?_
      rintro e _ ⟨rfl, rfl⟩
      clear HIX
      go_wp2
      go_ret3
      exact ⟨_, by rw [unhide HF2]; rfl, by rw [unhide HF2]; exact own_none _ _ _, unhide HB⟩
    · have hrm := Lib.index_room (s.data.toList.drop k) [61, 63] (by rw [hi]; omega)
      rw [hi, hll] at hrm
      simp only [List.length_cons, List.length_nil] at hrm
      have hki : k + i + 2 ≤ s.size := by omega
      obtain ⟨r, hop⟩ : ∃ r, opW (s.data.toList.drop (k + i)) = some r := by
        rw [occ_op, List.drop_drop] at hoc
        cases ho : opW (s.data.toList.drop (k + i)) with
        | none => rw [ho] at hoc; cases hoc
        | some r => exact ⟨r, rfl⟩
      have hF1 := (unhide HF).trans (fdW_to (k := k) hno hil)
      rw [List.drop_drop] at hF1
      have hsl2 := fun W => slice_from s ((k : Int) + (i : Int)) (k + i) (by omega) (by omega) W
      have HRW := hide (fun W (h : RTabN W) (h2 : ErrS W) => readWord_any (s.extract (k + i) s.size) W h h2 (by rw [size_part _ _ _ (Nat.le_refl _)]; omega))
      rw [toList_from] at HRW
      rw [hi] at HIX
      generalize s.extract k s.size = t1 at hsl HIX
      generalize s.extract (k + i) s.size = t2 at hsl2 HRW
      simp only [bts] at HIX
      have hni : ¬ (i : Int) < 0 := by omega
      by_cases hz : 0 < rdN (rdW (s.data.toList.drop (k + i)))
      · have HF2 := hide (hF1.trans (fdW_hit hz))
        obtain ⟨N, hN⟩ : ∃ N, N = rdN (rdW (s.data.toList.drop (k + i))) := ⟨_, rfl⟩
        rw [← hN] at HRW HF2 hz
        have hzi : (0 : Int) < (N : Int) := by omega
        clear hi hno hoc HF hF1 hop hN hrm hil hll
        go_wp2_with fail
        refine (unhide HIX _ ((unhide HML).below (unhide HB))).mono ?_
        rintro e _ ⟨rfl, rfl⟩
        clear HIX
        go_wp2_with fail
        refine (unhide HRW _ ((unhide HT).below (unhide HB)) ((unhide HES).below (unhide HB))).mono ?_
        rintro e w2 ⟨v, rfl, ho, hb⟩
        have HO := hide (ho.mono (unhide HB).size)
        have HB2 := hide (belows' (unhide HB) hb)
        clear hb ho HRW HB
        go_wp2
        go_ret3
        exact ⟨v, by rw [unhide HF2]; rfl, by rw [unhide HF2]; exact unhide HO, unhide HB2⟩
      · have HF2 := hide (hF1.trans (fdW_miss hop hz))
        have hN : rdN (rdW (s.data.toList.drop (k + i))) = 0 := by omega
        rw [hN] at HRW
        rw [List.drop_drop] at HF2
        clear hi hno hoc HF hF1 hop hN hz hrm hil hll
        go_wp2_with fail
        refine (unhide HIX _ ((unhide HML).below (unhide HB))).mono ?_
        rintro e _ ⟨rfl, rfl⟩
        clear HIX
        go_wp2_with fail
        refine (unhide HRW _ ((unhide HT).below (unhide HB)) ((unhide HES).below (unhide HB))).mono ?_
        rintro e w2 ⟨v, rfl, ho, hb⟩
        have HB2 := hide (belows' (unhide HB) hb)
        clear hb ho HRW HB
        go_wp2
        refine ⟨⟨k + i + 2, by simp, by omega, HF2, HB2⟩, ?_⟩
        simp [intOf]
        omega
end Go.Proofs.YtdallfakfhajdaaGreatDoor
