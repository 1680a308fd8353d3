/-
  What runes.write, runes.Encode and runes.Utf8 do, over this seat's program: letters' bytes in a charset, or the error.
-/
import Derived.Test.YtdallfakfhajdaaGreatDoorRen
set_option linter.unusedVariables false
namespace Go.Proofs.YtdallfakfhajdaaGreatDoor
open Go.RowKit Go.Proofs.Rns

theorem validRune_is (r : Int) : Lib.validRune r = isL r := by
  unfold Lib.validRune isL
  rw [Bool.eq_iff_iff]
  simp
  omega

set_option maxHeartbeats 1000000 in
set_option maxRecDepth 100000 in
theorem write_any (B b : Nat) (l : List UInt8) (c : Nat) (n : Int) (w : World) (ht : RTab w) (h : Lib.IsBuilderF 65 5 B b (Lib.byteCells l) w) (hc : 1 ≤ c ∧ c ≤ 5) (hr0 : -2147483648 ≤ n) (hr1 : n ≤ 2147483647) (hlen : l.length + 4 ≤ 140737488355328) (hBw : B ≤ w.heap.size) :
    Calls Tryz.prog 81 #[.pointer (some ⟨b, 0, none⟩), .int .u8 c, .int .i32 n] w fun e w' => e = .returned (.bool (encOne c n).isSome) ∧ Lib.IsBuilderF 65 5 B b (Lib.byteCells (l ++ (encOne c n).getD (if c = 2 then Lib.encodeRune n else [0]))) w' ∧ Below B w w' := by
  have HT := hide ht
  have HI := hide h
  clear ht h
  by_cases h2 : c = 2
  · subst h2
    have e2 : ((2 : Nat) : Int) = 2 := rfl
    have hone : encOne 2 n = if isL n then some (Lib.encodeRune n) else none := by simp [encOne]
    have hres : (encOne 2 n).isSome = Lib.validRune n ∧ (encOne 2 n).getD (Lib.encodeRune n) = Lib.encodeRune n := by
      rw [hone, validRune_is]
      split <;> simp_all
    rw [if_pos rfl, hres.1, hres.2]
    clear hone hres
    go_enter Tryz.func81, Tryz.ntmps81
    go_wp2_with fail
    refine (writeRune_k B b l n _ (unhide HI) hr0 hr1 hlen hBw).mono ?_
    rintro e w1 ⟨⟨m, rfl⟩, h1, b1⟩
    have HI1 := hide h1
    clear h1
    go_wp2_with fail
    refine (Tryz.utf8_ValidRune n _).mono ?_
    rintro e w2 ⟨rfl, rfl⟩
    go_wp2
    go_ret
    exact ⟨rfl, unhide HI1, b1⟩
  · have e2 : ((c : Int) == 2) = false := by simp; omega
    have hone : encOne c n = (byteR c n).map fun b => [UInt8.ofNat b] := by simp [encOne, h2]
    have hlt : (byteR c n).getD 0 < 256 := by
      cases hb : byteR c n with
      | none => simp
      | some x => exact (byteR_lt hb).1
    have hres : (encOne c n).isSome = (byteR c n).isSome ∧ (encOne c n).getD [0] = [UInt8.ofNat ((byteR c n).getD 0)] := by
      rw [hone]
      cases byteR c n <;> simp
    rw [if_neg h2, hres.1, hres.2]
    have HB := hide (byteOf_any c n w (unhide HT) ⟨hc.1, hc.2, h2⟩ hr0 hr1)
    clear hone hres h2
    generalize (byteR c n).isSome = q at HB
    generalize (byteR c n).getD 0 = x at HB hlt
    go_enter Tryz.func81, Tryz.ntmps81
    go_wp2_with fail
    refine (unhide HB).mono ?_
    rintro e w1 ⟨rfl, rfl⟩
    go_wp2_with fail
    refine (writeByte_k B b (Lib.byteCells l) _ _ (unhide HI) (by rw [Lib.byteCells_length]; omega) hBw).mono ?_
    rintro e w2 ⟨rfl, h2', b2, _⟩
    rw [byteCells_snoc l (UInt8.ofNat x) _ (by simp; omega)] at h2'
    have HI2 := hide h2'
    clear h2'
    go_wp2
    go_ret
    exact ⟨rfl, Or.inr (unhide HI2), b2⟩

/-- The value v is a slice of letters whose elements are l. -/
def RowI (w : World) (v : Value) (l : List Int) : Prop :=
  ∃ (a : Option Addr) (cap : Nat), v = .slice a l.length cap ∧ (∀ n ∈ l, -2147483648 ≤ n ∧ n ≤ 2147483647) ∧
    (l = [] ∨ ∃ b off, a = some ⟨b, off, none⟩ ∧ b < w.heap.size ∧ ∀ j (h : j < l.length), w.cell? ⟨b, off + j, none⟩ = some (.int .i32 l[j]))
theorem RowI.below {w w' : World} {v : Value} {l : List Int} (h : RowI w v l) (hb : Below w.heap.size w w') : RowI w' v l := by
  obtain ⟨a, cap, hv, hn, hc⟩ := h
  refine ⟨a, cap, hv, hn, ?_⟩
  rcases hc with hc | ⟨b, off, ha, hlt, hc⟩
  · exact Or.inl hc
  · have := hb.size
    refine Or.inr ⟨b, off, ha, by omega, fun j hj => ?_⟩
    rw [hb.cell (p := ⟨b, off + j, none⟩) hlt]
    exact hc j hj

theorem encL_take {c : Nat} : ∀ (l : List Int) (k : Nat) (h : k < l.length) (a : List UInt8), encL c (l.take k) = some a → encL c (l.take (k + 1)) = (encOne c l[k]).map (a ++ ·)
  | [], k, h, a, _ => by simp at h
  | n :: r, 0, _, a, ha => by
    simp [encL] at ha
    subst ha
    simp only [List.take_succ_cons, List.take_zero, encL, List.getElem_cons_zero]
    cases encOne c n <;> simp
  | n :: r, k + 1, h, a, ha => by
    simp only [List.take_succ_cons, encL] at ha
    cases hn : encOne c n with
    | none => rw [hn] at ha; simp at ha
    | some x =>
      rw [hn] at ha
      obtain ⟨y, hy, rfl⟩ := Option.map_eq_some_iff.1 ha
      have ih := encL_take r k (by simpa using h) y hy
      simp only [List.take_succ_cons, List.getElem_cons_succ]
      rw [encL, hn]
      simp only
      rw [ih, Option.map_map]
      cases encOne c (r[k]'(by simpa using h)) <;> simp
theorem encL_none {c : Nat} : ∀ (l : List Int) (k : Nat), encL c (l.take k) = none → encL c l = none
  | [], k, h => by simp [encL] at h
  | n :: r, 0, h => by simp [encL] at h
  | n :: r, k + 1, h => by
    simp only [List.take_succ_cons, encL] at h ⊢
    cases hn : encOne c n with
    | none => rfl
    | some x =>
      rw [hn] at h
      simp only [Option.map_eq_none_iff] at h ⊢
      exact encL_none r k h

set_option maxHeartbeats 1000000 in
set_option maxRecDepth 100000 in
theorem encode_ok (c : Nat) (v : Value) (l : List Int) (w : World) (ht : RTab w) (hv : RowI w v l) (hc : 1 ≤ c ∧ c ≤ 5) (hl : l.length ≤ 40000000) :
    Calls Tryz.prog 37 #[.int .u8 c, v] w fun e w' => e = .returned (.tuple #[.string (bts (encR c l).1), .int .i64 (encR c l).2]) ∧ Below w.heap.size w w' := by
  obtain ⟨a, cap, rfl, hn, hcell⟩ := hv
  have HT := hide ht
  have HN := hide hn
  have HCL := hide hcell
  have HC := isCharset_any c w (by omega)
  rw [decide_eq_true hc] at HC
  have HC := hide HC
  have henc : encR c l = match encL c l with | some s => (s, 0) | none => ([], 7) := by unfold encR; rw [if_pos hc]; cases encL c l <;> rfl
  have HENC := hide henc
  clear ht hn hcell henc
  go_enter Tryz.func37, Tryz.ntmps37
  go_wp2_with fail
  refine (unhide HC).mono ?_
  rintro e w1 ⟨rfl, rfl⟩
  go_wp2_with fail
  refine (grow_new l.length w1 (by omega)).mono ?_
  rintro e w2 ⟨rfl, h2, b2, z2⟩
  go_wp2
  go_loopw [8, 17] (fun x z wr => ∃ (k : Nat) (acc : List UInt8), z = .int .i64 k ∧ k ≤ l.length ∧ acc.length ≤ 4 * k ∧ Hid (encL c (l.take k) = some acc) ∧ Lib.IsBuilderF 65 5 w1.heap.size w1.heap.size (Lib.byteCells acc) wr ∧ Below w1.heap.size w1 wr ∧ w1.heap.size + 1 ≤ wr.heap.size) (fun _ z _ => l.length - (intOf z).toNat)
  case atStart => exact ⟨0, [], rfl, Nat.zero_le _, by simp, hide rfl, h2, b2, z2⟩
  case round =>
    obtain ⟨k, acc, rfl, hk, hacc, HE, hI, hbw, hz⟩ := hrel
    by_cases hlt : k < l.length
    · have hrange := unhide HN l[k] (List.getElem_mem hlt)
      have hcell : ∃ b off, a = some ⟨b, off, none⟩ ∧ wr.cell? ⟨b, off + k, none⟩ = some (.int .i32 l[k]) := by
        rcases unhide HCL with h | ⟨b, off, ha, hb, hcj⟩
        · subst h; simp at hlt
        · exact ⟨b, off, ha, (hbw.cell (p := ⟨b, off + k, none⟩) hb).trans (hcj k hlt)⟩
      obtain ⟨b, off, rfl, hcx⟩ := hcell
      have htk := encL_take l k hlt acc (unhide HE)
      have HTK := hide htk
      have hon : ∀ x, encOne c l[k] = some x → x.length ≤ 4 := fun x h => encOne_len h
      have HON := hide hon
      have HW := hide (write_any w1.heap.size w1.heap.size acc c l[k] wr ((unhide HT).below hbw) hI hc hrange.1 hrange.2 (by omega) (by omega))
      clear htk hon HE hrange
      generalize l[k] = n at hcx HTK HON HW
      cases hone : encOne c n with
      | none =>
        have hfin : encR c l = ([], 7) := by
          rw [unhide HENC]
          have h := unhide HTK
          rw [hone] at h
          rw [encL_none l (k + 1) (by simpa using h)]
        have HF := hide hfin
        rw [hone] at HW
        clear hfin hone
        go_wp2_with fail
        refine (unhide HW).mono ?_
        rintro e w3 ⟨rfl, h3, b3⟩
        go_wp2
        go_ret2
        exact ⟨by rw [unhide HF]; rfl, hbw.trans b3⟩
      | some x =>
        have hx := unhide HON x hone
        have hnx : encL c (l.take (k + 1)) = some (acc ++ x) := by
          have h := unhide HTK
          rw [hone] at h
          simpa using h
        have HNX := hide hnx
        rw [hone] at HW
        clear hnx hone
        go_wp2_with fail
        refine (unhide HW).mono ?_
        rintro e w3 ⟨rfl, h3, b3⟩
        have hz3 := b3.size
        have HI3 := hide h3
        clear h3
        go_wp2
        exact ⟨⟨k + 1, acc ++ x, by go_num, by omega, by simp; omega, HNX, unhide HI3, hbw.trans b3, by omega⟩, by simp [intOf]; omega⟩
    · have hfin : encR c l = (acc, 0) := by
        rw [unhide HENC]
        have h := unhide HE
        rw [List.take_of_length_le (by omega)] at h
        rw [h]
      have HF := hide hfin
      clear hfin HE
      go_wp2_with fail
      refine (Tryz.Builder_String_any_k w1.heap.size w1.heap.size acc _ hI (by omega)).mono ?_
      rintro e w3 ⟨rfl, _, b3, _⟩
      go_wp2
      go_ret2
      exact ⟨by rw [unhide HF]; rfl, hbw.trans b3⟩

set_option maxHeartbeats 400000 in
theorem encode_no (c : Nat) (v : Value) (w : World) (hc : ¬ (1 ≤ c ∧ c ≤ 5)) (h256 : c < 256) :
    Calls Tryz.prog 37 #[.int .u8 c, v] w fun e w' => e = .returned (.tuple #[.string (bts []), .int .i64 14]) ∧ w' = w := by
  have HC := isCharset_any c w h256
  rw [decide_eq_false hc] at HC
  have HC := hide HC
  go_enter Tryz.func37, Tryz.ntmps37
  go_wp2_with fail
  refine (unhide HC).mono ?_
  rintro e w1 ⟨rfl, rfl⟩
  go_wp2
  go_ret2
  exact ⟨rfl, rfl⟩

/-- runes.Encode tells the bytes, or the error. -/
theorem encode_any (c : Nat) (v : Value) (l : List Int) (w : World) (ht : RTab w) (hv : RowI w v l) (hc : c < 256) (hl : l.length ≤ 40000000) :
    Calls Tryz.prog 37 #[.int .u8 c, v] w fun e w' => e = .returned (.tuple #[.string (bts (encR c l).1), .int .i64 (encR c l).2]) ∧ Below w.heap.size w w' := by
  by_cases h : 1 ≤ c ∧ c ≤ 5
  · exact encode_ok c v l w ht hv h hl
  · have e : encR c l = ([], 14) := by unfold encR; rw [if_neg h]
    rw [e]
    refine (encode_no c v w h hc).mono ?_
    rintro e w1 ⟨rfl, rfl⟩
    exact ⟨rfl, Below.refl _ _⟩

theorem utf8L_take (l : List Int) (k : Nat) (h : k < l.length) : utf8L (l.take (k + 1)) = utf8L (l.take k) ++ Lib.encodeRune l[k] := by
  rw [List.take_succ_eq_append_getElem h, utf8L_append]
  simp [utf8L]

end Go.Proofs.YtdallfakfhajdaaGreatDoor
