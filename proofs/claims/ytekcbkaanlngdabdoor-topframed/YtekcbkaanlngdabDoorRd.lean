/-
  What vari.Read does, over this seat's program: the list that a text begins with, and what is behind it, or the error.
-/
import Derived.Test.YtekcbkaanlngdabDoorSam
set_option linter.unusedVariables false
namespace Go.Proofs.YtekcbkaanlngdabDoor
open Go.RowKit Go.Proofs.Num

theorem i32Info : (Tryd.prog.info? 28).map (fun i => (i.zero, i.size, i.bytes)) = some (some (.int .u32 0), 1, 4) := by kernel_rfl

/-- Numbers as cells of a row. -/
def cells32 (l : List Nat) : List Value := l.map fun (n : Nat) => Value.int .u32 (n : Int)

theorem cells32_snoc (l : List Nat) (n : Nat) (x : Int) (h : x = n) : cells32 l ++ [Value.int .u32 x] = cells32 (l ++ [n]) := by
  subst h
  simp [cells32]

theorem row_of_own {w : World} {B : Nat} {e : TypeId} {v : Value} {l : List Nat} (h : w.ownsRow B e 1 v l.length (cells32 l)) (h6 : l.length ≤ 65536) (hn : ∀ n ∈ l, n ≤ 4294967295) : Row w v l := by
  rcases h.2 with ⟨hv, h0⟩ | ⟨g, cap, cur, hv, hg, hh, hc, hm, hs, ht⟩
  · have : l = [] := List.eq_nil_of_length_eq_zero h0
    subst this
    exact ⟨none, 0, hv, by simp, by simp, Or.inl rfl⟩
  · refine ⟨_, cap, hv, by omega, hn, Or.inr ⟨g, 0, rfl, (Array.getElem?_eq_some_iff.1 hh).1, fun j hj => ?_⟩⟩
    have h1 : (cur.toList.take (l.length * 1))[j]? = (cells32 l)[j]? := by rw [ht]
    have h2 : (cells32 l)[j]? = some (.int .u32 (l[j] : Int)) := by simp [cells32, List.getElem?_eq_getElem hj]
    rw [h2, List.getElem?_take, if_pos (by omega)] at h1
    simp only [World.cell?, hh, Nat.zero_add]
    simpa using h1

/-- What Read tells of s. -/
def ReadIs (s : ByteArray) (w' : World) (v : Value) (x : ByteArray) (c : Nat) : Prop :=
  match readR s.data.toList with
  | .error e => v = .slice none 0 0 ∧ x = { data := #[] } ∧ c = e
  | .ok (l, k) => Row w' v l ∧ x = s.extract k s.size ∧ c = 0

theorem readIs_err {s : ByteArray} {e : Nat} (h : readR s.data.toList = .error e) (w' : World) : ReadIs s w' (.slice none 0 0) { data := #[] } e := by
  unfold ReadIs; rw [h]; exact ⟨rfl, rfl, rfl⟩
theorem readIs_ok {s : ByteArray} {l : List Nat} {k : Nat} (h : readR s.data.toList = .ok (l, k)) {w' : World} {v : Value} (hr : Row w' v l) : ReadIs s w' v (s.extract k s.size) 0 := by
  unfold ReadIs; rw [h]; exact ⟨hr, rfl, rfl⟩

theorem after_err {acc : List Nat} {a least c e : Nat} {s : List UInt8} (h : (scanL s).2.2 = e) (he : e ≠ 0) : after acc a (readGaps (c + 1) least s) = .error e := by
  rw [readGaps, if_pos (by rw [h]; exact he), h]; rfl
theorem after_code {acc : List Nat} {a least c : Nat} {s : List UInt8} (h : (scanL s).2.2 = 0) (hc : 4294967295 < (scanL s).1 ∨ 4294967295 < least + (scanL s).1) : after acc a (readGaps (c + 1) least s) = .error 7 := by
  rw [readGaps, if_neg (by simp [h]), if_pos hc]; rfl

theorem scan_at (s : ByteArray) (a : Nat) (w : World) (hs : s.size ≤ 281474976710656) (m k e : Nat) (h : scanL (s.data.toList.drop a) = (m, k, e)) :
    Calls Tryd.prog 36 #[.string (s.extract a s.size)] w fun e' w' => e' = .returned (.tuple #[.int .u64 m, .int .i64 k, .int .i64 e]) ∧ w' = w := by
  have := scan_any (s.extract a s.size) w (by unfold maxLen; rw [ByteArray.size_extract]; omega)
  rw [toList_from, h] at this
  exact this

set_option maxHeartbeats 2000000 in
set_option maxRecDepth 100000 in
theorem read_any (s : ByteArray) (w : World) (hs : s.size ≤ 281474976710656) :
    Calls Tryd.prog 23 #[.string s] w fun e w' => ∃ v x, ∃ c : Nat, e = .returned (.tuple #[v, .string x, .int .i64 c]) ∧ ReadIs s w' v x c ∧ Below w.heap.size w w' := by
  have hsl : s.data.toList.length = s.size := Array.length_toList ..
  have hle := scanL_le s.data.toList
  obtain ⟨c0, k0, e0, hsc⟩ : ∃ m k e, scanL s.data.toList = (m, k, e) := ⟨_, _, _, rfl⟩
  have hscan := scan_any s w (by unfold maxLen; omega)
  have hR : readR s.data.toList = if e0 ≠ 0 then .error e0 else if 65536 < c0 then .error 1 else after [] k0 (readGaps c0 0 (s.data.toList.drop k0)) := by
    unfold readR
    rw [hsc, after_nil]
  rw [hsc] at hle hscan
  simp only at hle
  obtain ⟨hk0, hk10, hc0⟩ := hle
  have HC := hide hscan
  clear hscan hsc
  by_cases he : e0 = 0
  · subst he
    rw [if_neg (by simp)] at hR
    by_cases h6 : 65536 < c0
    · rw [if_pos h6] at hR
      have HR := hide hR
      clear hR
      go_enter Tryd.func23, Tryd.ntmps23
      go_wp2_with fail
      refine (unhide HC).mono ?_
      rintro e w1 ⟨rfl, rfl⟩
      go_wp2
      go_ret3
      exact ⟨_, _, 1, rfl, readIs_err (unhide HR) _, Below.refl _ _⟩
    · rw [if_neg h6] at hR
      have HR := hide hR
      clear hR
      obtain ⟨i0, hi, hz0, hz1, hz2⟩ := info_parts i32Info
      go_enter Tryd.func23, Tryd.ntmps23
      go_wp2_with fail
      refine (unhide HC).mono ?_
      rintro e w1 ⟨rfl, rfl⟩
      go_wp2
      go_loopw [6, 8, 9, 25] (fun xa xl xm xi wr => ∃ (i a0 least : Nat) (acc : List Nat), xi = .int .u64 i ∧ xa = .int .i64 a0 ∧ xm = .int .u64 least ∧ i ≤ c0 ∧ a0 ≤ s.size ∧ least ≤ 4294967296 ∧ acc.length = i ∧ (∀ n ∈ acc, n ≤ 4294967295) ∧ wr.ownsRow w1.heap.size 28 1 xl acc.length (cells32 acc) ∧ after acc a0 (readGaps (c0 - i) least (s.data.toList.drop a0)) = readR s.data.toList ∧ Below w1.heap.size w1 wr) (fun _ _ _ xi _ => c0 - (intOf xi).toNat)
      case atStart => exact ⟨0, k0, 0, [], rfl, rfl, rfl, Nat.zero_le _, by omega, by omega, rfl, by simp, ⟨rfl, Or.inl ⟨rfl, rfl⟩⟩, (unhide HR).symm, Below.refl _ _⟩
      case round =>
        obtain ⟨i, a0, least, acc, rfl, rfl, rfl, hic, ha0, hlst, hlen, hall, hown, haft, hbw⟩ := hrel
        have HA := hide haft
        have HALL := hide hall
        have HLEN := hide hlen
        have hbs := hbw.size
        clear haft hall hlen
        by_cases hlt : i < c0
        · have hle := scanL_le (s.data.toList.drop a0)
          have hno := scanL_no (s.data.toList.drop a0)
          obtain ⟨g, z, ec, hsc⟩ : ∃ m k e, scanL (s.data.toList.drop a0) = (m, k, e) := ⟨_, _, _, rfl⟩
          have HS := hide hsc
          rw [hsc, List.length_drop, hsl] at hle
          rw [hsc] at hno
          simp only at hle hno
          obtain ⟨hz, hz10, hg⟩ := hle
          have hq : c0 - i = (c0 - (i + 1)) + 1 := by omega
          by_cases hec : ec = 0
          · subst hec
            by_cases hbig : 4294967295 < g
            · have hfin : readR s.data.toList = .error 7 := by rw [← unhide HA, hq]; exact after_code (by rw [hsc]) (by rw [hsc]; exact Or.inl hbig)
              have HF := hide hfin
              clear hsc hno hq hfin
              go_wp2_with fail
              refine (scan_at s a0 _ hs g z 0 (unhide HS)).mono ?_
              rintro e w2 ⟨rfl, rfl⟩
              go_wp2
              go_ret3
              exact ⟨_, _, 7, rfl, readIs_err (unhide HF) _, hbw⟩
            · by_cases hbig2 : 4294967295 < least + g
              · have hfin : readR s.data.toList = .error 7 := by rw [← unhide HA, hq]; exact after_code (by rw [hsc]) (by rw [hsc]; exact Or.inr hbig2)
                have HF := hide hfin
                clear hsc hno hq hfin
                go_wp2_with fail
                refine (scan_at s a0 _ hs g z 0 (unhide HS)).mono ?_
                rintro e w2 ⟨rfl, rfl⟩
                go_wp2
                go_ret3
                exact ⟨_, _, 7, rfl, readIs_err (unhide HF) _, hbw⟩
              · have hnx := after_step acc a0 least (c0 - (i + 1)) (s.data.toList.drop a0) (by rw [hsc]) (by rw [hsc]; simp only; omega)
                rw [← hq, unhide HA, hsc, List.drop_drop] at hnx
                simp only at hnx
                have HN := hide hnx.symm
                have hln := unhide HLEN
                have HLL := hide hln
                have hal : acc.length ≤ 65536 := by omega
                clear hsc hno hq hnx hln
                go_wp2_with fail
                refine (scan_at s a0 _ hs g z 0 (unhide HS)).mono ?_
                rintro e w2 ⟨rfl, rfl⟩
                go_wp2_with (at_builtin; refine wpList_append_own _ rfl _ _ 40 rfl w1.heap.size 28 i0 (.int .u32 0) 1 4 Tryd.underlying40 hi hz0 hz1 hz2 rfl (by decide) _ _ _ rfl (hown.alloc _) ⟨w2.heap.size, 0, none⟩ 1 1 [.int .u32 (↑least + ↑g)] rfl rfl ?c1 ?c2 ?c3 ?c4 ?c5 ?_)
                case c1 =>
                  intro j u hj
                  match j, hj with
                  | 0, hj => simp at hj; subst hj; simp [Addr.add]
                case c2 => intro u hu; simp at hu; subst hu; rfl
                case c3 => unfold maxLen; omega
                case c4 => omega
                case c5 => simp; omega
                intro v' w3 hown' hgrow _
                have hb3 : Below w1.heap.size w1 w3 := (hbw.alloc (by omega) _).grown hgrow (by simp; omega) (fun k hk => by
                  rcases hown.2 with ⟨rfl, _⟩ | ⟨g, cap, cur, rfl, hg, _⟩
                  · simp [Value.ownBlock] at hk
                  · simp [Value.ownBlock] at hk; omega)
                rw [cells32_snoc acc (least + g) _ (by omega)] at hown'
                go_wp2
                exact ⟨⟨i + 1, a0 + z, least + g + 1, acc ++ [least + g], by go_num, by go_num, by go_num, by omega, by omega, by omega, by simp [unhide HLL], by
                  intro n hn
                  rcases List.mem_append.1 hn with hn | hn
                  · exact unhide HALL n hn
                  · simp at hn; omega, by simpa using hown', unhide HN, hb3⟩, by simp [intOf]; omega⟩
          · have hfin : readR s.data.toList = .error ec := by rw [← unhide HA, hq]; exact after_err (by rw [hsc]) hec
            have HF := hide hfin
            have hne : ((ec : Int) == 0) = false := by simp; omega
            clear hsc hno hq hfin hec
            go_wp2_with fail
            refine (scan_at s a0 _ hs g z ec (unhide HS)).mono ?_
            rintro e w2 ⟨rfl, rfl⟩
            go_wp2
            go_ret3
            exact ⟨_, _, ec, rfl, readIs_err (unhide HF) _, hbw⟩
        · have hfin : readR s.data.toList = .ok (acc, a0) := by
            rw [← unhide HA, show c0 - i = 0 by omega, readGaps]
            simp [after]
          have HF := hide hfin
          have hrow : Row wr u8 acc := row_of_own hown (by have := unhide HLEN; omega) (unhide HALL)
          have hext : (s.extract a0 s.size).size ≤ 281474976710656 := by rw [ByteArray.size_extract]; omega
          clear hfin
          go_wp2_with fail
          refine (clone_any (s.extract a0 s.size) _ hext).mono ?_
          rintro e w2 ⟨rfl, hb2⟩
          go_wp2
          go_ret3
          exact ⟨_, _, 0, rfl, readIs_ok (unhide HF) (hrow.below hb2), belows hbw hb2⟩
  · rw [if_pos he] at hR
    have HR := hide hR
    have hne : ((e0 : Int) == 0) = false := by simp; omega
    clear hR he
    go_enter Tryd.func23, Tryd.ntmps23
    go_wp2_with fail
    refine (unhide HC).mono ?_
    rintro e w1 ⟨rfl, rfl⟩
    go_wp2
    go_ret3
    exact ⟨_, _, e0, rfl, readIs_err (unhide HR) _, Below.refl _ _⟩
end Go.Proofs.YtekcbkaanlngdabDoor
