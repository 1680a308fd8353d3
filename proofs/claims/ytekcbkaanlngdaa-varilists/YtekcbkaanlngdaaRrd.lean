/-
  What the document's own Read does, over this seat's program: the list that a text begins with, and what is behind it, or the error.
-/
import Derived.Test.YtekcbkaanlngdaaRd
import Derived.Deep.Cut
set_option linter.unusedVariables false
namespace Go.Proofs.Ytekcbkaanlngdaa
open Go.RowKit Go.Proofs.Num

theorem own_below {w w' : World} {B : Nat} {e : TypeId} {v : Value} {n : Nat} {xs : List Value} (h : w.ownsRow B e 1 v n xs) (hb : Below w.heap.size w w') : w'.ownsRow B e 1 v n xs := by
  obtain ⟨h1, h2⟩ := h
  refine ⟨h1, ?_⟩
  rcases h2 with h2 | ⟨g, cap, cur, hv, hg, hh, r⟩
  · exact Or.inl h2
  · exact Or.inr ⟨g, cap, cur, hv, hg, by rw [hb.block g (Array.getElem?_eq_some_iff.1 hh).1]; exact hh, r⟩

theorem extract_extract (s : ByteArray) (a z : Nat) : (s.extract a s.size).extract z (s.extract a s.size).size = s.extract (a + z) s.size := by
  apply ext_list
  rw [toList_from, toList_from, toList_from, List.drop_drop]

theorem refGet_at (s : ByteArray) (a : Nat) (w : World) (hs : s.size ≤ 281474976710656) (m k : Nat) (h : scanL (s.data.toList.drop a) = (m, k, 0)) :
    Calls Try.prog 10 #[.string (s.extract a s.size)] w fun e' w' => e' = .returned (.tuple #[.int .u64 m, .string (s.extract (a + k) s.size), .int .i64 0]) ∧ Below w.heap.size w w' := by
  have := refGet_any (s.extract a s.size) w (by rw [ByteArray.size_extract]; omega)
  have h2 : restOf (s.extract a s.size) = s.extract (a + k) s.size := by unfold restOf; rw [toList_from, h, if_pos rfl, extract_extract]
  rw [toList_from, h, h2] at this
  exact this
theorem refGet_at_no (s : ByteArray) (a : Nat) (w : World) (hs : s.size ≤ 281474976710656) (c : Nat) (hc : c ≠ 0) (h : scanL (s.data.toList.drop a) = (0, 0, c)) :
    Calls Try.prog 10 #[.string (s.extract a s.size)] w fun e' w' => e' = .returned (.tuple #[.int .u64 0, .string { data := #[] }, .int .i64 c]) ∧ Below w.heap.size w w' := by
  have := refGet_any (s.extract a s.size) w (by rw [ByteArray.size_extract]; omega)
  have h2 : restOf (s.extract a s.size) = { data := #[] } := by unfold restOf; rw [toList_from, h, if_neg (by simpa using hc)]; rfl
  rw [toList_from, h, h2] at this
  exact this

theorem own_cell32 {w : World} {B : Nat} {e : TypeId} {gb cap : Nat} {l : List Nat} (h : w.ownsRow B e 1 (.slice (some ⟨gb, 0, none⟩) l.length cap) l.length (cells32 l)) (j : Nat) (hj : j < l.length) :
    w.cell? ⟨gb, j, none⟩ = some (.int .u32 (l[j] : Int)) := by
  rcases h.2 with ⟨hv, _⟩ | ⟨g, c, cur, hv, hg, hh, hc, hm, hs, ht⟩
  · simp at hv
  · simp at hv
    obtain ⟨rfl, rfl⟩ := hv
    have h1 : (cur.toList.take (l.length * 1))[j]? = (cells32 l)[j]? := by rw [ht]
    have h2 : (cells32 l)[j]? = some (.int .u32 (l[j] : Int)) := by simp [cells32, List.getElem?_eq_getElem hj]
    rw [h2, List.getElem?_take, if_pos (by omega)] at h1
    simp only [World.cell?, hh]
    simpa using h1

theorem extract_zero (s : ByteArray) : s.extract 0 s.size = s := by
  apply ext_list
  rw [toList_from]; rfl

set_option maxHeartbeats 2000000 in
set_option maxRecDepth 100000 in
theorem refRead_any (s : ByteArray) (w : World) (hs : s.size ≤ 281474976710656) :
    Calls Try.prog 23 #[.string s] w fun e w' => ∃ v x, ∃ c : Nat, e = .returned (.tuple #[v, .string x, .int .i64 c]) ∧ ReadIs s w' v x c ∧ Below w.heap.size w w' := by
  have hsl : s.data.toList.length = s.size := Array.length_toList ..
  rcases scan_ways s.data.toList with ⟨c0, k0, hsc, hc0, hk10, hk0⟩ | ⟨c, hsc, hc⟩
  · have hR : readR s.data.toList = if 65536 < c0 then .error 1 else after [] k0 (readGaps c0 0 (s.data.toList.drop k0)) := by
      unfold readR
      rw [hsc, after_nil]
      rfl
    have hget := refGet_at s 0 w hs c0 k0 (by simpa using hsc)
    rw [extract_zero, Nat.zero_add] at hget
    have HC := hide hget
    clear hsc hget
    by_cases h6 : 65536 < c0
    · rw [if_pos h6] at hR
      have HR := hide hR
      clear hR
      go_enter Try.func23, Try.ntmps23
      go_wp2_with fail
      refine (unhide HC).mono ?_
      rintro e w1 ⟨rfl, hb1⟩
      go_wp2
      go_ret3
      exact ⟨_, _, 1, rfl, readIs_err (unhide HR) _, hb1⟩
    · rw [if_neg h6] at hR
      have HR := hide hR
      clear hR
      obtain ⟨i0, hi, hz0, hz1, hz2⟩ := info_parts i32Info
      go_enter Try.func23, Try.ntmps23
      go_wp2_with fail
      refine (unhide HC).mono ?_
      rintro e w1 ⟨rfl, hb1⟩
      go_wp2
      go_loopw [6, 8, 9] (fun xa xl xi wr => ∃ (i a0 : Nat) (acc : List Nat), xi = .int .u64 i ∧ xa = .string (s.extract a0 s.size) ∧ i ≤ c0 ∧ a0 ≤ s.size ∧ acc.length = i ∧ (∀ n ∈ acc, n ≤ 4294967295) ∧ wr.ownsRow w.heap.size 42 1 xl acc.length (cells32 acc) ∧ after acc a0 (readGaps (c0 - i) (leastAt acc i) (s.data.toList.drop a0)) = readR s.data.toList ∧ Below w.heap.size w wr) (fun _ _ xi _ => c0 - (intOf xi).toNat)
      case atStart => exact ⟨0, k0, [], rfl, rfl, Nat.zero_le _, by omega, rfl, by simp, ⟨rfl, Or.inl ⟨rfl, rfl⟩⟩, (unhide HR).symm, hb1⟩
      case round =>
        obtain ⟨i, a0, acc, rfl, rfl, hic, ha0, hlen, hall, hown, haft, hbw⟩ := hrel
        have HA := hide haft
        have HALL := hide hall
        have HLEN := hide hlen
        have hbs := hbw.size
        clear haft hall hlen
        by_cases hlt : i < c0
        · have hq : c0 - i = (c0 - (i + 1)) + 1 := by omega
          rcases scan_ways (s.data.toList.drop a0) with ⟨g, z, hsc, hg, hz10, hz⟩ | ⟨c, hsc, hc⟩
          · rw [List.length_drop, hsl] at hz
            have HS := hide hsc
            by_cases hbig : 4294967295 < g
            · have hfin : readR s.data.toList = .error 7 := by rw [← unhide HA, hq]; exact after_code (by rw [hsc]) (by rw [hsc]; exact Or.inl hbig)
              have HF := hide hfin
              clear hsc hq hfin
              go_wp2_with fail
              refine (refGet_at s a0 _ hs g z (unhide HS)).mono ?_
              rintro e w2 ⟨rfl, hb2⟩
              go_wp2
              go_ret3
              exact ⟨_, _, 7, rfl, readIs_err (unhide HF) _, belows hbw hb2⟩
            · have hal : acc.length ≤ 65536 := by have := unhide HLEN; omega
              have hnx : ∀ least, least = leastAt acc i → ¬ 4294967295 < least + g → after (acc ++ [least + g]) (a0 + z) (readGaps (c0 - (i + 1)) (leastAt (acc ++ [least + g]) (i + 1)) (s.data.toList.drop (a0 + z))) = readR s.data.toList := by
                intro least he hb
                have h := after_step acc a0 least (c0 - (i + 1)) (s.data.toList.drop a0) (by rw [hsc]) (by rw [hsc]; simp only; omega)
                rw [← hq, he, unhide HA, hsc, List.drop_drop] at h
                simp only at h
                rw [h, he]
                have hl2 := unhide HLEN
                rw [show leastAt (acc ++ [leastAt acc i + g]) (i + 1) = leastAt acc i + g + 1 by
                  subst hl2
                  rw [leastAt_next (by simp)]
                  simp]
              by_cases hi0 : i = 0
              · have hb0 : ¬ 0 < i := by omega
                have HN := hide (hnx 0 (by simp [leastAt, hi0]) (by omega))
                rw [Nat.zero_add] at HN
                clear hsc hq hnx hi0
                go_wp2_with fail
                refine (refGet_at s a0 _ hs g z (unhide HS)).mono ?_
                rintro e w2 ⟨rfl, hb2⟩
                have hown2 := own_below hown hb2
                have hbs2 := hb2.size
                go_wp2_with (at_builtin; refine wpList_append_own _ rfl _ _ 33 rfl w.heap.size 42 i0 (.int .u32 0) 1 4 Try.underlying33 hi hz0 hz1 hz2 rfl (by decide) _ _ _ rfl (hown2.alloc _) ⟨w2.heap.size, 0, none⟩ 1 1 [.int .u32 ↑g] rfl rfl ?c1 ?c2 ?c3 ?c4 ?c5 ?_)
                case c1 =>
                  intro j u hj
                  match j, hj with
                  | 0, hj => simp at hj; subst hj; simp [Addr.add]
                case c2 => intro u hu; simp at hu; subst hu; rfl
                case c3 => unfold maxLen; omega
                case c4 => omega
                case c5 => simp; omega
                intro v' w3 hown' hgrow _
                have hb3 : Below w.heap.size w w3 := ((belows hbw hb2).alloc (by omega) _).grown hgrow (by simp; omega) (fun k hk => by
                  rcases hown2.2 with ⟨hv, _⟩ | ⟨g, cap, cur, hv, hg, _⟩
                  · rw [hv] at hk; simp [Value.ownBlock] at hk
                  · rw [hv] at hk; simp [Value.ownBlock] at hk; omega)
                rw [cells32_snoc acc g _ (by omega)] at hown'
                go_wp2
                exact ⟨⟨i + 1, a0 + z, acc ++ [g], by go_num, rfl, by omega, by omega, by simp [unhide HLEN], by
                  intro n hn
                  rcases List.mem_append.1 hn with hn | hn
                  · exact unhide HALL n hn
                  · simp at hn; omega, by simpa using hown', unhide HN, hb3⟩, by simp [intOf]; omega⟩
              · obtain ⟨gb, cap, hv⟩ : ∃ gb cap, u8 = .slice (some ⟨gb, 0, none⟩) acc.length cap := by
                  rcases hown.2 with ⟨_, h0⟩ | ⟨g, cap, cur, hv, _⟩
                  · exact absurd ((unhide HLEN).symm.trans h0) hi0
                  · exact ⟨g, cap, hv⟩
                subst hv
                obtain ⟨q, rfl⟩ : ∃ q, i = q + 1 := ⟨i - 1, by omega⟩
                have hqa : q < acc.length := by have := unhide HLEN; omega
                have hla : leastAt acc (q + 1) = acc[q] + 1 := leastAt_next hqa
                have h32 : acc[q] ≤ 4294967295 := unhide HALL _ (List.getElem_mem hqa)
                have hcq : ∀ w2 : World, w2.ownsRow w.heap.size 42 1 (.slice (some ⟨gb, 0, none⟩) acc.length cap) acc.length (cells32 acc) → w2.cell? ⟨gb, q, none⟩ = some (.int .u32 (acc[q] : Int)) := fun w2 h => own_cell32 h q hqa
                have hq1 : (q : Int) < (acc.length : Int) := by omega
                generalize acc[q] = pv at hla h32 hcq
                have HCQ := hide hcq
                clear hcq
                by_cases hbig2 : 4294967295 < pv + 1 + g
                · have hfin : readR s.data.toList = .error 7 := by rw [← unhide HA, hq]; exact after_code (by rw [hsc]) (by rw [hsc, hla]; exact Or.inr hbig2)
                  have HF := hide hfin
                  clear hsc hq hfin hnx hla hi0
                  go_wp2_with fail
                  refine (refGet_at s a0 _ hs g z (unhide HS)).mono ?_
                  rintro e w2 ⟨rfl, hb2⟩
                  have hown2 := own_below hown hb2
                  have hcell := unhide HCQ w2 hown2
                  clear hown hown2
                  go_upto_region 17 with (fail)
                  rw [show ((g : Int) + ((pv : Int) + 1)) = ((pv + 1 + g : Nat) : Int) by omega]
                  generalize pv + 1 + g = nv at hbig2
                  go_wp2
                  go_ret3
                  exact ⟨_, _, 7, rfl, readIs_err (unhide HF) _, belows hbw hb2⟩
                · have HN := hide (hnx (pv + 1) hla.symm (by omega))
                  clear hsc hq hnx hla hi0
                  go_wp2_with fail
                  refine (refGet_at s a0 _ hs g z (unhide HS)).mono ?_
                  rintro e w2 ⟨rfl, hb2⟩
                  have hown2 := own_below hown hb2
                  have hbs2 := hb2.size
                  have hcell := unhide HCQ w2 hown2
                  have HO := hide hown2
                  clear hown hown2
                  go_upto_region 17 with (fail)
                  rw [show ((g : Int) + ((pv : Int) + 1)) = ((pv + 1 + g : Nat) : Int) by omega]
                  generalize pv + 1 + g = nv at hbig2 HN
                  go_wp2_with (at_builtin; refine wpList_append_own _ rfl _ _ 33 rfl w.heap.size 42 i0 (.int .u32 0) 1 4 Try.underlying33 hi hz0 hz1 hz2 rfl (by decide) _ _ _ rfl ((unhide HO).alloc _) ⟨w2.heap.size, 0, none⟩ 1 1 [.int .u32 ↑nv] rfl rfl ?c1 ?c2 ?c3 ?c4 ?c5 ?_)
                  case c1 =>
                    intro j u hj
                    match j, hj with
                    | 0, hj => simp at hj; subst hj; simp [Addr.add]
                  case c2 => intro u hu; simp at hu; subst hu; rfl
                  case c3 => unfold maxLen; omega
                  case c4 => omega
                  case c5 => simp; omega
                  intro v' w3 hown' hgrow _
                  have hb3 : Below w.heap.size w w3 := ((belows hbw hb2).alloc (by omega) _).grown hgrow (by simp; omega) (fun k hk => by
                    rcases (unhide HO).2 with ⟨hv, _⟩ | ⟨g, cap, cur, hv, hg, _⟩
                    · rw [hv] at hk; simp [Value.ownBlock] at hk
                    · rw [hv] at hk; simp [Value.ownBlock] at hk; omega)
                  rw [cells32_snoc acc nv _ rfl] at hown'
                  go_wp2
                  exact ⟨⟨q + 1 + 1, a0 + z, acc ++ [nv], by go_num, rfl, by omega, by omega, by simp [unhide HLEN], by
                    intro n hn
                    rcases List.mem_append.1 hn with hn | hn
                    · exact unhide HALL n hn
                    · simp at hn; omega, by simpa using hown', unhide HN, hb3⟩, by simp [intOf]; omega⟩
          · have hc0' : c ≠ 0 := by omega
            have hfin : readR s.data.toList = .error c := by rw [← unhide HA, hq]; exact after_err (by rw [hsc]) hc0'
            have HF := hide hfin
            have HS := hide hsc
            have hne : ((c : Int) == 0) = false := by simp; omega
            clear hsc hq hfin hc
            go_wp2_with fail
            refine (refGet_at_no s a0 _ hs c hc0' (unhide HS)).mono ?_
            rintro e w2 ⟨rfl, hb2⟩
            go_wp2
            go_ret3
            exact ⟨_, _, c, rfl, readIs_err (unhide HF) _, belows hbw hb2⟩
        · have hfin : readR s.data.toList = .ok (acc, a0) := by
            rw [← unhide HA, show c0 - i = 0 by omega, readGaps]
            simp [after]
          have HF := hide hfin
          have hrow : Row wr u8 acc := row_of_own hown (by have := unhide HLEN; omega) (unhide HALL)
          clear hfin
          go_wp2
          go_ret3
          exact ⟨_, _, 0, rfl, readIs_ok (unhide HF) hrow, hbw⟩
  · have hc0 : c ≠ 0 := by omega
    have hR : readR s.data.toList = .error c := by
      unfold readR
      rw [hsc, if_pos (by simpa using hc0)]
    have hget := refGet_at_no s 0 w hs c hc0 (by simpa using hsc)
    rw [extract_zero] at hget
    have HC := hide hget
    have HR := hide hR
    have hne : ((c : Int) == 0) = false := by simp; omega
    clear hR hsc hget hc
    go_enter Try.func23, Try.ntmps23
    go_wp2_with fail
    refine (unhide HC).mono ?_
    rintro e w1 ⟨rfl, hb1⟩
    go_wp2
    go_ret3
    exact ⟨_, _, c, rfl, readIs_err (unhide HR) _, hb1⟩
end Go.Proofs.Ytekcbkaanlngdaa
