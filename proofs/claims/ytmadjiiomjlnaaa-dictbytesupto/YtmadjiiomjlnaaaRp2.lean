/-
  What the document's own Put, Size and Get do, over this seat's program: the same bytes, the same number, the same error.
-/
import Derived.Test.YtmadjiiomjlnaaaSi2
import Derived.Laws.IdiomStrings
import Derived.Deep.RegionWith
import Derived.Deep.QuietTactic
import Derived.BigQuiet
import Derived.WalkSmall
set_option linter.unusedVariables false
namespace Go.Proofs.Ytmadjiiomjlnaaa
open Go.RowKit Go.Proofs.Num

theorem add128 (m : Nat) : ((m % 128 : Nat) : Int) + 128 = ((UInt8.ofNat (m % 128 + 128)).toNat : Int) := by
  simp; omega

/-- The cells of a row of bytes that the call owns. -/
theorem own_cells {w : World} {B : Nat} {e : TypeId} {v : Value} {l : List UInt8} (h : w.ownsRow B e 1 v l.length (Lib.byteCells l)) (hp : 0 < l.length) :
    ∃ g cap, v = .slice (some ⟨g, 0, none⟩) l.length cap ∧ ∀ j (hj : j < l.length), w.cell? (Addr.add ⟨g, 0, none⟩ j) = some (.int .u8 (l[j].toNat : Int)) := by
  rcases h.2 with ⟨_, h0⟩ | ⟨g, cap, cur, hv, hg, hh, hn, hm, hs, ht⟩
  · omega
  · refine ⟨g, cap, hv, fun j hj => ?_⟩
    have h1 : (cur.toList.take (l.length * 1))[j]? = (Lib.byteCells l)[j]? := by rw [ht]
    have h2 : (Lib.byteCells l)[j]? = some (.int .u8 (l[j].toNat : Int)) := by simp [Lib.byteCells, List.getElem?_eq_getElem hj]
    rw [h2, List.getElem?_take, if_pos (by omega)] at h1
    have ha : Addr.add ⟨g, 0, none⟩ j = ⟨g, j, none⟩ := by
      unfold Addr.add
      by_cases h0 : j = 0
      · simp [h0]
      · simp [h0]
    rw [ha]
    simp only [World.cell?, hh]
    simpa using h1

set_option maxHeartbeats 1000000 in
set_option maxRecDepth 100000 in
theorem refPut_any (n : Nat) (w : World) (hn : n < 18446744073709551616) :
    Calls Try.prog 23 #[.int .u64 n] w fun e w' => e = .returned (.string (bts (putL n))) ∧ Below w.heap.size w w' := by
  have hl10 := putL_len10 hn
  obtain ⟨i0, hi, hz0, hz1, hz2⟩ := info_parts bInfo
  go_enter Try.func23, Try.ntmps23
  go_wp2
  go_loopw [0, 3] (fun v x wr => ∃ (m : Nat) (acc : List UInt8), v = .int .u64 m ∧ m < 18446744073709551616 ∧ acc ++ putL m = putL n ∧ wr.ownsRow w.heap.size 5 1 x acc.length (Lib.byteCells acc) ∧ Below w.heap.size w wr) (fun v x wr => (intOf v).toNat)
  case atStart => exact ⟨n, [], rfl, hn, rfl, ⟨rfl, Or.inl ⟨rfl, rfl⟩⟩, Below.refl _ _⟩
  case round =>
    obtain ⟨m, acc, rfl, hm, hacc, hown, hbw⟩ := hrel
    have hal := congrArg List.length hacc
    have hpm := putL_pos m
    simp at hal
    have hbs := hbw.size
    by_cases h127 : 127 < m
    · have H1 := hide (add128 m)
      rw [putL_big (show 128 ≤ m by omega)] at hacc
      have H3 := hide hacc
      clear hacc
      go_wp2_with (at_builtin; refine wpList_append_own _ rfl _ _ 44 rfl w.heap.size 5 i0 (.int .u8 0) 1 1 Try.underlying44 hi hz0 hz1 hz2 rfl (by decide) _ _ _ rfl (hown.alloc _) ⟨wr.heap.size, 0, none⟩ 1 1 [.int .u8 (↑m % 128 + 128)] rfl rfl ?c1 ?c2 ?c3 ?c4 ?c5 ?_)
      case c1 =>
        intro j u hj
        match j, hj with
        | 0, hj => simp at hj; subst hj; simp [Addr.add]
      case c2 => intro u hu; simp at hu; subst hu; rfl
      case c3 => unfold maxLen; omega
      case c4 => omega
      case c5 => simp; omega
      intro v' w2 hown' hgrow _
      have hb2 : Below w.heap.size w w2 := (hbw.alloc (by omega) _).grown hgrow (by simp; omega) (fun k hk => by
        rcases hown.2 with ⟨rfl, _⟩ | ⟨g, cap, cur, rfl, hg, _⟩
        · simp [Value.ownBlock] at hk
        · simp [Value.ownBlock] at hk; omega)
      rw [byteCells_snoc acc (UInt8.ofNat (m % 128 + 128)) _ (by have := unhide H1; omega)] at hown'
      go_wp2
      go_roundw
      case rel => exact ⟨m / 128, acc ++ [UInt8.ofNat (m % 128 + 128)], by go_num, by omega, by rw [← unhide H3]; simp, by simpa using hown', hb2⟩
      case measure => simp [intOf]; omega
    · have hu : (m : Int) = ((UInt8.ofNat m).toNat : Int) := by simp; omega
      rw [putL_small (by omega)] at hacc
      have H2 := hide hu
      have H3 := hide hacc
      clear hu hacc
      go_wp2_with (at_builtin; refine wpList_append_own _ rfl _ _ 44 rfl w.heap.size 5 i0 (.int .u8 0) 1 1 Try.underlying44 hi hz0 hz1 hz2 rfl (by decide) _ _ _ rfl (hown.alloc _) ⟨wr.heap.size, 0, none⟩ 1 1 [.int .u8 ↑m] rfl rfl ?c1 ?c2 ?c3 ?c4 ?c5 ?_)
      case c1 =>
        intro j u hj
        match j, hj with
        | 0, hj => simp at hj; subst hj; simp [Addr.add]
      case c2 => intro u hu; simp at hu; subst hu; rfl
      case c3 => unfold maxLen; omega
      case c4 => omega
      case c5 => simp; omega
      intro v' w2 hown' hgrow _
      have hb2 : Below w.heap.size w w2 := (hbw.alloc (by omega) _).grown hgrow (by simp; omega) (fun k hk => by
        rcases hown.2 with ⟨rfl, _⟩ | ⟨g, cap, cur, rfl, hg, _⟩
        · simp [Value.ownBlock] at hk
        · simp [Value.ownBlock] at hk; omega)
      rw [byteCells_snoc acc (UInt8.ofNat m) _ (unhide H2), unhide H3] at hown'
      have hlen : acc.length + 1 = (putL n).length := by rw [← unhide H3]; simp
      obtain ⟨g, cap, hv, hc⟩ : ∃ g cap, v' = .slice (some ⟨g, 0, none⟩) (putL n).length cap ∧ ∀ j (hj : j < (putL n).length), w2.cell? (Addr.add ⟨g, 0, none⟩ j) = some (.int .u8 ((putL n)[j].toNat : Int)) := own_cells (by rw [← hlen]; exact hown') (putL_pos n)
      rw [hv]
      have hcv := run_convert_bytes_back (P := Try.prog) w2 44 9 5 ⟨g, 0, none⟩ cap (putL n) Try.underlying44 Try.underlying5 Try.underlying9 hc
      go_wp2
      go_ret
      exact ⟨rfl, hb2⟩

theorem take_ok {s : List UInt8} {m k : Nat} (h : scanL s = (m, k, 0)) : s.take k = putL m := by
  obtain ⟨h1, h2, _⟩ := scanL_ok h
  rw [h1, h2, List.take_left']
  rfl
theorem take_no {s : List UInt8} {m k c : Nat} (h : scanL s = (0, 0, c)) (hc : c ≠ 0) (hm : m < 18446744073709551616) : s.take k ≠ putL m := by
  intro he
  have h1 : s = putL m ++ s.drop k := by rw [← he, List.take_append_drop]
  rw [h1, scanL_put m _ hm] at h
  simp at h
  omega

theorem addE (m c k : Nat) (hk : k ≤ 9) (hn : m < 2 ^ (7 * k)) (hc : c < 256) (h9 : k = 9 → c ≤ 1) :
    IntKind.u64.wrap ((m : Int) + IntKind.u64.wrap ((c : Int) % 128 * 2 ^ (7 * k))) = ((m + c % 128 * 2 ^ (7 * k) : Nat) : Int) := by
  have hu := joinE_u64 m c k hk hn hc h9
  rw [show ((c : Int) % 128 * 2 ^ (7 * k)) = ((c % 128 * 2 ^ (7 * k) : Nat) : Int) by simp, wrap_u64 _ (by omega), ← Int.natCast_add, wrap_u64 _ hu]

set_option maxHeartbeats 1000000 in
set_option maxRecDepth 100000 in
theorem refGet_any (s : ByteArray) (w : World) (hs : s.size ≤ 281474976710656) :
    Calls Try.prog 27 #[.string s] w fun e w' => e = .returned (.tuple #[.int .u64 (scanL s.data.toList).1, .string (restOf s), .int .i64 (scanL s.data.toList).2.2]) ∧ Below w.heap.size w w' := by
  go_enter Try.func27, Try.ntmps27
  go_wp2
  go_loop [5, 6] (fun x i => ∃ k m : Nat, i = .int .i64 k ∧ x = .int .u64 m ∧ k ≤ s.size ∧ k ≤ 9 ∧ m < 2 ^ (7 * k) ∧ scanFrom (s.data.toList.drop k) k m = scanL s.data.toList) (fun _ i => (10 - intOf i).toNat)
  case atStart => exact ⟨0, 0, rfl, rfl, Nat.zero_le _, by omega, by decide, rfl⟩
  case round =>
    obtain ⟨k, m, rfl, rfl, hk, hk9, hm, hsc⟩ := hrel
    have HS := hide hsc
    have HN := hide hm
    clear hsc hm
    by_cases hend : k = s.size
    · have hfin : scanL s.data.toList = (0, 0, 5) := by rw [← unhide HS, hend, drop_end s (Nat.le_refl _)]; rfl
      have HF := hide hfin
      have hr : restOf s = { data := #[] } := by unfold restOf; rw [hfin, if_neg (by decide)]; rfl
      have HR := hide hr
      have hnl : ¬ k < s.size := by omega
      clear hfin hend hr
      go_wp2
      go_ret3
      exact ⟨by rw [unhide HF, unhide HR]; rfl, Below.refl _ _⟩
    · have hlt : k < s.size := by omega
      have hc := s[k].toNat_lt
      have hdrop := drop_byte s k hlt
      by_cases h9 : k = 9 ∧ 1 < s[k].toNat
      · have hb9 : ((k : Int) == 9) = true := by simp [h9.1]
        have hb1 : 1 < s[k].toNat := h9.2
        have hfin : scanL s.data.toList = (0, 0, 7) := by rw [← unhide HS, hdrop, scanFrom, if_pos h9]
        have hr : restOf s = { data := #[] } := by unfold restOf; rw [hfin, if_neg (by decide)]; rfl
        have HR := hide hr
        have HF := hide hfin
        clear hfin h9 hdrop hr
        go_wp2
        go_ret3
        exact ⟨by rw [unhide HF, unhide HR]; rfl, Below.refl _ _⟩
      · have h9c : k = 9 → s[k].toNat ≤ 1 := fun e => by omega
        by_cases h128 : 128 ≤ s[k].toNat
        · have hk8 : k ≤ 8 := by omega
          have hb9 : ((k : Int) == 9) = false := by simp; omega
          have hfin : scanFrom (s.data.toList.drop (k + 1)) (k + 1) (m + s[k].toNat % 128 * 2 ^ (7 * k)) = scanL s.data.toList := by rw [← unhide HS, hdrop, scanFrom, if_neg h9, if_pos h128]
          have HF := hide hfin
          clear hfin h9 hdrop
          go_wp2
          exact ⟨⟨k + 1, m + s[k].toNat % 128 * 2 ^ (7 * k), by go_num, by rw [addE m _ k (by omega) (unhide HN) hc h9c], by omega, by omega, joinE_lt m _ k (unhide HN), unhide HF⟩, by simp [intOf]; omega⟩
        · have HE := hide (addE m s[k].toNat k (by omega) (unhide HN) hc h9c)
          have hu := joinE_u64 m s[k].toNat k (by omega) (unhide HN) hc h9c
          have hgd : (((k : Int) == 9) = true ∧ s[k].toNat ≤ 1) ∨ ((k : Int) == 9) = false := by
            by_cases h9' : k = 9
            · exact Or.inl ⟨by simp [h9'], h9c h9'⟩
            · exact Or.inr (by simp; omega)
          by_cases hz : s[k].toNat = 0 ∧ 0 < k
          · have hfin : scanL s.data.toList = (0, 0, 7) := by rw [← unhide HS, hdrop, scanFrom, if_neg h9, if_neg h128, if_pos hz]
            have HF := hide hfin
            have hne : ((bts (putL (m + s[k].toNat % 128 * 2 ^ (7 * k)))).toList == (s.extract 0 (k + 1)).toList) = false := by
              rw [beq_eq_false_iff_ne, ByteArray.toList_eq, ByteArray.toList_eq, toList_bts, toList_upto]
              exact (take_no hfin (by decide) hu).symm
            have hr : restOf s = { data := #[] } := by unfold restOf; rw [hfin, if_neg (by decide)]; rfl
            have HR := hide hr
            clear hfin h9 hdrop h9c hz hr
            rcases hgd with ⟨hb9, hb1⟩ | hb9
            all_goals
              go_wp2
              rw [unhide HE]
              generalize m + s[k].toNat % 128 * 2 ^ (7 * k) = v at hu hne
              have hw1 : IntKind.i64.wrap ((k : Int) + 1) = ((k + 1 : Nat) : Int) := by rw [IntKind.wrap_i64]; omega
              have hk1 : k + 1 ≤ s.size := by omega
              go_region_with (go_at_call 23; refine (refPut_any v _ hu).mono ?_; rintro e w1 ⟨rfl, hb⟩)
              all_goals
                go_wp2
                go_ret3
                exact ⟨by rw [unhide HF, unhide HR]; rfl, below_drew0 hb⟩
          · have hfin : scanL s.data.toList = (m + s[k].toNat % 128 * 2 ^ (7 * k), k + 1, 0) := by rw [← unhide HS, hdrop, scanFrom, if_neg h9, if_neg h128, if_neg hz]
            have hne : ((bts (putL (m + s[k].toNat % 128 * 2 ^ (7 * k)))).toList == (s.extract 0 (k + 1)).toList) = true := by
              rw [beq_iff_eq, ByteArray.toList_eq, ByteArray.toList_eq, toList_bts, toList_upto]
              exact (take_ok hfin).symm
            have hr : restOf s = s.extract (k + 1) s.size := by unfold restOf; rw [hfin, if_pos rfl]
            have HR := hide hr
            have HF := hide hfin
            clear hfin h9 hdrop h9c hz hr
            rcases hgd with ⟨hb9, hb1⟩ | hb9
            all_goals
              go_wp2
              rw [unhide HE]
              generalize m + s[k].toNat % 128 * 2 ^ (7 * k) = v at hu hne HF
              have hw1 : IntKind.i64.wrap ((k : Int) + 1) = ((k + 1 : Nat) : Int) := by rw [IntKind.wrap_i64]; omega
              have hk1 : k + 1 ≤ s.size := by omega
              go_region_with (go_at_call 23; refine (refPut_any v _ hu).mono ?_; rintro e w1 ⟨rfl, hb⟩)
              all_goals
                go_wp2
                go_quiet (fail)
                go_wp2
                go_ret3
                exact ⟨by rw [unhide HF, unhide HR]; rfl, below_drewN (below_drew0 hb) _⟩
end Go.Proofs.Ytmadjiiomjlnaaa
