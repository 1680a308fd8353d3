/-
  What missivelaw09.WordBlanks does, over this seat's program: it answers true.
-/
import Derived.Test.YtdallfakfhajdaaGreatDoorWbw
import Derived.Test.YtdallfakfhajdaaGreatDoorApq
set_option linter.unusedVariables false
namespace Go.Proofs.YtdallfakfhajdaaGreatDoor
open Go.RowKit Go.Proofs.Enc Go.Proofs.Rns

/-- Spaces and tabs. -/
def gapL : Nat → List UInt8
  | 0 => []
  | k + 1 => gapL k ++ [32, 9]
theorem gapL_len : ∀ k, (gapL k).length = 2 * k
  | 0 => rfl
  | k + 1 => by rw [gapL, List.length_append, gapL_len k]; rfl
theorem gapL_mem : ∀ k, ∀ c ∈ gapL k, c = 32 ∨ c = 9
  | 0, c, h => by simp [gapL] at h
  | k + 1, c, h => by
    rw [gapL, List.mem_append] at h
    rcases h with h | h
    · exact gapL_mem k c h
    · simpa using h
theorem gapL_bl (k : Nat) : blL (gapL k) = true := List.all_eq_true.2 fun c h => by
  rcases gapL_mem k c h with rfl | rfl <;> rfl
theorem gapL_no (k : Nat) : 61 ∉ gapL k := fun h => by
  rcases gapL_mem k 61 h with h | h <;> simp at h
def midL (k : Nat) (m : List UInt8) : List UInt8 := gapL k ++ m ++ gapL k
theorem midL_no {k : Nat} {m : List UInt8} (h : ∀ c ∈ m, 97 ≤ c.toNat ∧ c.toNat ≤ 122) : 61 ∉ midL k m := fun hm => by
  unfold midL at hm
  rw [List.mem_append, List.mem_append] at hm
  rcases hm with (hm | hm) | hm
  · exact gapL_no k hm
  · have h61 : (61 : UInt8).toNat = 61 := rfl
    have := h 61 hm
    omega
  · exact gapL_no k hm
theorem midL_bl {k : Nat} {m : List UInt8} (h : ∀ c ∈ m, 97 ≤ c.toNat ∧ c.toNat ≤ 122) (hn : m ≠ []) : blL (midL k m) = false ∧ (midL k m).isEmpty = false := by
  cases m with
  | nil => exact absurd rfl hn
  | cons c r =>
    refine ⟨?_, by simp [midL]⟩
    cases hb : blL (midL k (c :: r)) with
    | false => rfl
    | true =>
      have h1 := List.all_eq_true.1 hb c (by simp [midL])
      have h2 := h c (List.mem_cons_self ..)
      unfold isBl at h1
      simp only [Bool.or_eq_true, beq_iff_eq] at h1
      rcases h1 with rfl | rfl
      · revert h2; decide
      · revert h2; decide
/-- The letters of two lists, with a run between them. -/
theorem two_flat (base : Bool) (a b : List Int) (run : List UInt8) (h : 61 ∉ run) (ha : a ≠ []) (hb : b ≠ []) :
    (pcW (jw base false (chunks a) ++ (run ++ jw (!base) false (chunks b)))).flatMap (·.1) = (chunks a).flatMap lettersL ++ ((if !run.isEmpty && !blL run then lettersL run else []) ++ (chunks b).flatMap lettersL) := by
  have hc : ∀ l : List Int, l ≠ [] → chunks l ≠ [] := fun l hl e => by
    have h1 := chunks_len l
    rw [e] at h1
    have h2 := List.length_pos_iff.2 hl
    simp only [List.length_nil] at h1
    omega
  rw [pcW_two base _ _ run h (hc a ha) (hc b hb), List.flatMap_append, List.flatMap_append, wds_flat, wds_flat]
  congr 1
  congr 1
  split
  · simp
  · rfl
theorem letters_mem {l : List Int} : ∀ n ∈ (chunks l).flatMap lettersL, isL (n : Int) = true := fun n hn => by
  obtain ⟨t, _, ht⟩ := List.mem_flatMap.1 hn
  exact lettersL_is t n ht
theorem ints_app (a b : List Nat) : ints (a ++ b) = ints a ++ ints b := by simp [ints]
theorem data_app (a b : ByteArray) : (a ++ b).data.toList = a.data.toList ++ b.data.toList := by rw [ByteArray.data_append, Array.toList_append]
theorem ne_of_len {l : List Int} (h : 0 < l.length) : l ≠ [] := fun e => by rw [e] at h; simp at h

set_option maxHeartbeats 8000000 in
set_option maxRecDepth 100000 in
theorem wordBlanks_walk (xa : Option Addr) (ca : Nat) (a : List Int) (xb : Option Addr) (cb : Nat) (b : List Int) (base : Bool) (n : Nat) (mid : ByteArray) (w : World) (ht : TabW w)
    (va : RowI w (.slice xa a.length ca) a) (na : Neat (.slice xa a.length ca)) (hca : a.length ≤ ca) (vb : RowI w (.slice xb b.length cb) b) (nb : Neat (.slice xb b.length cb)) (hcb : b.length ≤ cb) (hn : n < 256) (hl : a.length + b.length + mid.size ≤ 1048576) :
    Calls Tryz.prog 7 #[.slice xa a.length ca, .slice xb b.length cb, .bool base, .int .u8 (n : Int), .string mid] w fun e w' => e = .returned (.bool true) ∧ Below w.heap.size w w' := by
  have HT := hide ht
  have HVA := hide va
  have HVB := hide vb
  have HNA := hide na
  have HNB := hide nb
  have HL := hide (livesW_any w ht)
  have HEA := hide (fun W (h : TabW W) (h2 : RowI W (.slice xa a.length ca) a) => encodeW_any xa ca a base W h.tab.toRTab h2 hca (by omega))
  have HEB := hide (fun W (h : TabW W) (h2 : RowI W (.slice xb b.length cb) b) => encodeW_any xb cb b (!base) W h.tab.toRTab h2 hcb (by omega))
  clear ht va vb na nb
  go_enter Tryz.func7, Tryz.ntmps7
  go_wp2_with fail
  refine (unhide HL).mono ?_
  rintro e w1 ⟨rfl, b1⟩
  have HT1 := hide ((unhide HT).below b1)
  have HVA1 := hide ((unhide HVA).below b1)
  have HVB1 := hide ((unhide HVB).below b1)
  have HB1 := hide b1
  clear b1 HL HT HVA HVB
  rcases encW_cases base a with he | ⟨hia, he⟩
  · rw [he] at HEA
    clear he
    generalize bts (encW (!base) b).1 = tb at HEB
    generalize (encW (!base) b).2 = eb at HEB
    go_wp2_with fail
    refine (unhide HEA _ (unhide HT1) (unhide HVA1)).mono ?_
    rintro e w2 ⟨rfl, b2⟩
    have HT2 := hide ((unhide HT1).below b2)
    have HVB2 := hide ((unhide HVB1).below b2)
    have HB2 := hide (belows' (unhide HB1) b2)
    clear b2
    go_wp2_with fail
    refine (unhide HEB _ (unhide HT2) (unhide HVB2)).mono ?_
    rintro e w3 ⟨rfl, b3⟩
    have HB3 := hide (belows' (unhide HB2) b3)
    clear b3
    go_wp2
    go_ret
    exact ⟨rfl, unhide HB3⟩
  · rw [he] at HEA
    clear he
    rcases encW_cases (!base) b with hf | ⟨hib, hf⟩
    · rw [hf] at HEB
      clear hf
      generalize bts (jw base false (chunks a)) = ta at HEA
      go_wp2_with fail
      refine (unhide HEA _ (unhide HT1) (unhide HVA1)).mono ?_
      rintro e w2 ⟨rfl, b2⟩
      have HT2 := hide ((unhide HT1).below b2)
      have HVB2 := hide ((unhide HVB1).below b2)
      have HB2 := hide (belows' (unhide HB1) b2)
      clear b2
      go_wp2_with fail
      refine (unhide HEB _ (unhide HT2) (unhide HVB2)).mono ?_
      rintro e w3 ⟨rfl, b3⟩
      have HB3 := hide (belows' (unhide HB2) b3)
      clear b3
      go_wp2
      go_ret
      exact ⟨rfl, unhide HB3⟩
    · rw [hf] at HEB
      clear hf
      have hla := enc_len_le base a
      have hlb := enc_len_le (!base) b
      obtain ⟨s, hs⟩ : ∃ s, s = bts (jw base false (chunks a)) := ⟨_, rfl⟩
      obtain ⟨t, htt⟩ : ∃ t, t = bts (jw (!base) false (chunks b)) := ⟨_, rfl⟩
      have hsl : s.data.toList = jw base false (chunks a) := by rw [hs, toList_bts]
      have htl : t.data.toList = jw (!base) false (chunks b) := by rw [htt, toList_bts]
      have hsz : s.size ≤ 175 * ((a.length + 11) / 12) := by rw [← sizeL, hsl]; exact hla
      have htz : t.size ≤ 175 * ((b.length + 11) / 12) := by rw [← sizeL, htl]; exact hlb
      rw [← hs] at HEA
      rw [← htt] at HEB
      have HSL := hide hsl
      have HTL := hide htl
      have HIA := hide (chunks_back hia)
      have HIB := hide (chunks_back hib)
      clear hs htt hsl htl hla hlb hia hib
      go_wp2_with fail
      refine (unhide HEA _ (unhide HT1) (unhide HVA1)).mono ?_
      rintro e w2 ⟨rfl, b2⟩
      have HT2 := hide ((unhide HT1).below b2)
      have HVA2 := hide ((unhide HVA1).below b2)
      have HVB2 := hide ((unhide HVB1).below b2)
      have HB2 := hide (belows' (unhide HB1) b2)
      clear b2 HT1 HVA1 HVB1 HB1 HEA
      go_wp2_with fail
      refine (unhide HEB _ (unhide HT2) (unhide HVB2)).mono ?_
      rintro e w3 ⟨rfl, b3⟩
      have HT3 := hide ((unhide HT2).below b3)
      have HVA3 := hide ((unhide HVA2).below b3)
      have HVB3 := hide ((unhide HVB2).below b3)
      have HB3 := hide (belows' (unhide HB2) b3)
      clear b3 HT2 HVA2 HVB2 HB2 HEB
      by_cases ha0 : a.length = 0
      · have e1 : ((a.length : Int) == 0) = true := by rw [ha0]; rfl
        clear HVA3 HIA
        generalize a.length = la at *
        go_wp2
        go_ret
        exact ⟨rfl, unhide HB3⟩
      · have e1 : ((a.length : Int) == 0) = false := by rw [beq_eq_false_iff_ne]; omega
        by_cases hb0 : b.length = 0
        · have e2 : ((b.length : Int) == 0) = true := by rw [hb0]; rfl
          clear HVB3 HIB
          generalize b.length = lb at *
          go_wp2
          go_ret
          exact ⟨rfl, unhide HB3⟩
        · have e2 : ((b.length : Int) == 0) = false := by rw [beq_eq_false_iff_ne]; omega
          obtain ⟨m9, hm9⟩ : ∃ m9, m9 = n % 9 := ⟨_, rfl⟩
          have hm9' : (n : Int) % 9 = (m9 : Int) := by omega
          have hm8 : m9 ≤ 8 := by omega
          clear hm9
          go_wp2
          go_loop [15, 16] (fun x z => ∃ k : Nat, z = .int .i64 (k : Int) ∧ k ≤ m9 ∧ x = .string (bts (gapL k))) (fun _ z => m9 - (intOf z).toNat)
          case atStart => exact ⟨0, rfl, Nat.zero_le _, rfl⟩
          case round =>
            obtain ⟨k, rfl, hk, rfl⟩ := hrel
            by_cases hlt : k < m9
            · have hlt' : (k : Int) < (m9 : Int) := by omega
              have hg : (bts (gapL k)).size ≤ 16 := by rw [size_bts, gapL_len]; omega
              have HG : Hid (bts (gapL k) ++ ⟨#[32, 9]⟩ = bts (gapL (k + 1))) := hide (by
                apply ext_list
                rw [data_app, toList_bts, toList_bts]
                rfl)
              generalize bts (gapL k) = g at hg HG ⊢
              go_wp2
              exact ⟨⟨k + 1, by go_num, by omega, by rw [← unhide HG]⟩, by simp [intOf]; omega⟩
            · have hlt' : ¬ (k : Int) < (m9 : Int) := by omega
              have hkm : k = m9 := by omega
              subst hkm
              obtain ⟨g, hg⟩ : ∃ g, g = bts (gapL k) := ⟨_, rfl⟩
              have hgl : g.data.toList = gapL k := by rw [hg, toList_bts]
              have hgz : g.size ≤ 16 := by rw [hg, size_bts, gapL_len]; omega
              rw [← hg]
              have HA0 : Hid (a ≠ []) := hide (ne_of_len (by omega))
              have HB0 : Hid (b ≠ []) := hide (ne_of_len (by omega))
              have hz0 : (s ++ g).size = s.size + g.size := ByteArray.size_append
              have hz1 : (s ++ g ++ t).size ≤ 16777216 := by rw [ByteArray.size_append, hz0]; omega
              have hd1 : (s ++ g ++ t).data.toList = jw base false (chunks a) ++ (gapL k ++ jw (!base) false (chunks b)) := by rw [data_app, data_app, unhide HSL, hgl, unhide HTL, List.append_assoc]
              have hf1 := two_flat base a b (gapL k) (gapL_no k) (unhide HA0) (unhide HB0)
              rw [gapL_bl] at hf1
              simp only [Bool.not_true, Bool.and_false, Bool.false_eq_true, if_false, List.nil_append] at hf1
              have HD1 := hide (fun W (h : TabW W) => decode_word (s ++ g ++ t) W h.tab h.err h.max hz1)
              rw [hd1, hf1] at HD1
              have hsg1 : s.size + g.size ≤ 9223372036854775807 := by omega
              have hsg2 : (s ++ g).size + t.size ≤ 9223372036854775807 := by rw [hz0]; omega
              obtain ⟨v1, u1, hr1, ho1, hbl1, _, _⟩ := run_append_rowI (w3.alloc (.cells #[] 21)) w3.heap.size _ (.slice xa a.length ca) [] a 22 (own_empty w3) ((unhide HVA3).below ((Below.refl _ w3).alloc (Nat.le_refl _) _)) (unhide HNA) (by simp; omega) (by simp)
              have hbl1' : Below w3.heap.size w3 u1 := ((Below.refl _ w3).alloc (Nat.le_refl _) _).trans hbl1
              obtain ⟨v2, u2, hr2, ho2, hbl2, _, _⟩ := run_append_rowI u1 w3.heap.size v1 (.slice xb b.length cb) ([] ++ a) b 22 ho1 ((unhide HVB3).below hbl1') (unhide HNB) (by simp; omega) hbl1'.size
              have hbl2' : Below w3.heap.size w3 u2 := hbl1'.trans hbl2
              have HROW := hide (own_rowC ho2 (by
                intro n hn
                simp only [List.nil_append, List.mem_append] at hn
                rcases hn with hn | hn
                · exact (unhide HVA3).range n hn
                · exact (unhide HVB3).range n hn))
              have HT4 := hide ((unhide HT3).below hbl2')
              have HVA4 := hide ((unhide HVA3).below hbl2')
              have HVB4 := hide ((unhide HVB3).below hbl2')
              have HB4 := hide (belows' (unhide HB3) hbl2')
              have HGL := hide hgl
              clear hg hgl hd1 hf1 ho1 ho2 hbl1 hbl2 hbl1' hbl2' HT3 HVA3 HVB3 HB3
              go_wp2_with (at_builtin; first | refine wpList_append_run (by rfl) _ _ 22 rfl rfl rfl rfl hr1 ?_ | refine wpList_append_run (by rfl) _ _ 22 rfl rfl rfl rfl hr2 ?_)
              refine (unhide HD1 _ (unhide HT4)).mono ?_
              rintro e w5 ⟨v5, rfl, o5, b5⟩
              have HO5 := hide (own_rowI o5 (fun n hn => by
                rcases List.mem_append.1 hn with hn | hn
                · exact letters_mem n hn
                · exact letters_mem n hn))
              rw [ints_app, unhide HIA, unhide HIB] at HO5
              have HROW5 := hide ((unhide HROW).below b5)
              have HT5 := hide ((unhide HT4).below b5)
              have HVA5 := hide ((unhide HVA4).below b5)
              have HVB5 := hide ((unhide HVB4).below b5)
              have HB5 := hide (belows' (unhide HB4) b5)
              clear o5 b5 HROW HT4 HVA4 HVB4 HB4 HD1 hr1 hr2
              have HSM := hide (same_any _ _ _ _ w5 (unhide HO5) (unhide HROW5) (by rw [List.length_append]; omega))
              rw [show decide (a ++ b = [] ++ a ++ b) = true by simp] at HSM
              go_wp2_with fail
              refine (unhide HSM).mono ?_
              rintro e w6 ⟨rfl, b6⟩
              have HT6 := hide ((unhide HT5).below b6)
              have HVA6 := hide ((unhide HVA5).below b6)
              have HVB6 := hide ((unhide HVB5).below b6)
              have HB6 := hide (belows' (unhide HB5) b6)
              clear b6 HT5 HVA5 HVB5 HB5 HSM HO5 HROW5
              go_wp2
              go_loop [18] (fun z => ∃ i : Nat, z = .int .i64 (i : Int) ∧ i ≤ mid.size ∧ Hid (∀ j (h : j < mid.size), j < i → 97 ≤ mid[j].toNat ∧ mid[j].toNat ≤ 122)) (fun z => mid.size - (intOf z).toNat)
              case atStart => exact ⟨0, rfl, Nat.zero_le _, hide (fun j h hj => by omega)⟩
              case round =>
                obtain ⟨i, rfl, hi, HM⟩ := hrel
                by_cases hil : i < mid.size
                · have hil' : (i : Int) < (mid.size : Int) := by omega
                  by_cases g1 : 97 ≤ mid[i].toNat
                  · by_cases g2 : mid[i].toNat ≤ 122
                    · have g1' : ¬ (mid[i].toNat : Int) < 97 := by omega
                      have g2' : ¬ (122 : Int) < (mid[i].toNat : Int) := by omega
                      have HM2 : Hid (∀ j (h : j < mid.size), j < i + 1 → 97 ≤ mid[j].toNat ∧ mid[j].toNat ≤ 122) := hide (fun j h hj => by
                        by_cases e : j = i
                        · subst e; exact ⟨g1, g2⟩
                        · exact unhide HM j h (by omega))
                      clear g1 g2 HM
                      go_wp2
                      exact ⟨⟨i + 1, by go_num, by omega, HM2⟩, by simp [intOf]; omega⟩
                    · have g1' : ¬ (mid[i].toNat : Int) < 97 := by omega
                      have g2' : (122 : Int) < (mid[i].toNat : Int) := by omega
                      clear g1 g2 HM
                      go_wp2
                      go_ret
                      exact ⟨rfl, unhide HB6⟩
                  · have g1' : (mid[i].toNat : Int) < 97 := by omega
                    clear g1 HM
                    go_wp2
                    go_ret
                    exact ⟨rfl, unhide HB6⟩
                · have hil' : ¬ (i : Int) < (mid.size : Int) := by omega
                  by_cases hm0 : mid.size = 0
                  · have hme : mid.toList.isEmpty = true := by rw [empty_size]; exact decide_eq_true hm0
                    clear HM
                    go_wp2
                    go_ret
                    exact ⟨rfl, unhide HB6⟩
                  · have hme : mid.toList.isEmpty = false := by rw [empty_size]; exact decide_eq_false hm0
                    have hmm : ∀ c ∈ mid.data.toList, 97 ≤ c.toNat ∧ c.toNat ≤ 122 := fun c hc => by
                      obtain ⟨j, hj, rfl⟩ := List.getElem_of_mem hc
                      have hj' : j < mid.size := by rw [← sizeL]; exact hj
                      exact unhide HM j hj' (by omega)
                    have hmn : mid.data.toList ≠ [] := fun e => by
                      have := sizeL mid
                      rw [e] at this
                      simp at this
                      omega
                    have hgl := unhide HGL
                    obtain ⟨hbl, hem⟩ := midL_bl (k := k) hmm hmn
                    have hf2 := two_flat base a b (midL k mid.data.toList) (midL_no hmm) (unhide HA0) (unhide HB0)
                    rw [hbl, hem] at hf2
                    simp only [Bool.not_false, Bool.and_true, if_true] at hf2
                    have hrd : (g ++ mid ++ g).data.toList = midL k mid.data.toList := by rw [data_app, data_app, hgl]; rfl
                    have hd2 : (s ++ g ++ mid ++ g ++ t).data.toList = jw base false (chunks a) ++ (midL k mid.data.toList ++ jw (!base) false (chunks b)) := by
                      rw [data_app, data_app, data_app, data_app, unhide HSL, hgl, unhide HTL]
                      simp [midL]
                    have hrs : (g ++ mid).size = g.size + mid.size := ByteArray.size_append
                    have hrz : (g ++ mid ++ g).size ≤ 1048608 := by rw [ByteArray.size_append, hrs]; omega
                    have hy1 : (s ++ g ++ mid).size = s.size + g.size + mid.size := by rw [ByteArray.size_append, hz0]
                    have hy2 : (s ++ g ++ mid ++ g).size = s.size + g.size + mid.size + g.size := by rw [ByteArray.size_append, hy1]
                    have hy3 : (s ++ g ++ mid ++ g ++ t).size ≤ 16777216 := by rw [ByteArray.size_append, hy2]; omega
                    have q1 : g.size + mid.size ≤ 9223372036854775807 := by omega
                    have q2 : (g ++ mid).size + g.size ≤ 9223372036854775807 := by rw [hrs]; omega
                    have q3 : (s ++ g).size + mid.size ≤ 9223372036854775807 := by rw [hz0]; omega
                    have q4 : (s ++ g ++ mid).size + g.size ≤ 9223372036854775807 := by rw [hy1]; omega
                    have q5 : (s ++ g ++ mid ++ g).size + t.size ≤ 9223372036854775807 := by rw [hy2]; omega
                    have hll := lettersL_len (midL k mid.data.toList)
                    have hml2 : (midL k mid.data.toList).length ≤ mid.size + 32 := by
                      unfold midL
                      rw [List.length_append, List.length_append, gapL_len, sizeL]
                      omega
                    have HLT := hide (fun W (h : RTab W) => letters_any (g ++ mid ++ g) W h (by omega))
                    rw [hrd] at HLT
                    have HLI := hide (lettersL_is (midL k mid.data.toList))
                    have HD2 := hide (fun W (h : TabW W) => decode_word (s ++ g ++ mid ++ g ++ t) W h.tab h.err h.max hy3)
                    rw [hd2, hf2] at HD2
                    obtain ⟨R, hR⟩ : ∃ R, R = lettersL (midL k mid.data.toList) := ⟨_, rfl⟩
                    rw [← hR] at HLT HLI HD2 hll
                    have hRl : R.length ≤ 1048608 := by omega
                    clear hmm hmn hgl hbl hem hf2 hrd hd2 hR hll hml2 hrs hy1 hy2 HM
                    obtain ⟨v1, u1, hr1, ho1, hbl1, _, _⟩ := run_append_rowI (w6.alloc (.cells #[] 21)) w6.heap.size _ (.slice xa a.length ca) [] a 22 (own_empty w6) ((unhide HVA6).below ((Below.refl _ w6).alloc (Nat.le_refl _) _)) (unhide HNA) (by simp; omega) (by simp)
                    have hbl1' : Below w6.heap.size w6 u1 := ((Below.refl _ w6).alloc (Nat.le_refl _) _).trans hbl1
                    have HO1 := hide ho1
                    have HU1 := hide hbl1'
                    have HT7 := hide ((unhide HT6).below hbl1')
                    clear ho1 hbl1 hbl1'
                    go_wp2_with (at_builtin; refine wpList_append_run (by rfl) _ _ 22 rfl rfl rfl rfl hr1 ?_)
                    refine (unhide HLT _ (unhide HT7).tab.toRTab).mono ?_
                    rintro e w7 ⟨v7, rfl, o7, b7⟩
                    clear hr1
                    have ho1 := own_below (unhide HO1) b7
                    have hw7 : Below w6.heap.size w6 w7 := belows' (unhide HU1) b7
                    obtain ⟨z7, q7, hz7⟩ := (own_rowI o7 (unhide HLI)).len
                    subst hz7
                    have hRi : (ints R).length ≤ 1048608 := by simp [ints]; omega
                    obtain ⟨v8, u8, hr8, ho8, hbl8, _, _⟩ := run_append_rowI w7 w6.heap.size v1 _ ([] ++ a) (ints R) 22 ho1 (own_rowI o7 (unhide HLI)) (own_neat o7) (by simp; omega) hw7.size
                    have hw8 : Below w6.heap.size w6 u8 := hw7.trans hbl8
                    obtain ⟨v9, u9, hr9, ho9, hbl9, _, _⟩ := run_append_rowI u8 w6.heap.size v8 (.slice xb b.length cb) ([] ++ a ++ ints R) b 22 ho8 ((unhide HVB6).below hw8) (unhide HNB) (by simp; omega) hw8.size
                    have hw9 : Below w6.heap.size w6 u9 := hw8.trans hbl9
                    have HROW := hide (own_rowC ho9 (by
                      intro n hn
                      simp only [List.nil_append, List.mem_append] at hn
                      rcases hn with (hn | hn) | hn
                      · exact (unhide HVA6).range n hn
                      · exact (own_rowI o7 (unhide HLI)).range n hn
                      · exact (unhide HVB6).range n hn))
                    have HT9 := hide ((unhide HT6).below hw9)
                    have HB9 := hide (belows' (unhide HB6) hw9)
                    clear ho1 ho8 ho9 hbl8 hbl9 hw7 hw8 hw9 o7 b7 HO1 HU1 HT7 HLT
                    have HFI : Hid (ints ((chunks a).flatMap lettersL ++ (R ++ (chunks b).flatMap lettersL)) = a ++ (ints R ++ b)) := hide (by rw [ints_app, ints_app, unhide HIA, unhide HIB])
                    generalize ints R = RI at *
                    go_wp2_with (at_builtin; first | refine wpList_append_run (by rfl) _ _ 22 rfl rfl rfl rfl hr8 ?_ | refine wpList_append_run (by rfl) _ _ 22 rfl rfl rfl rfl hr9 ?_)
                    refine (unhide HD2 _ (unhide HT9)).mono ?_
                    rintro e w10 ⟨v10, rfl, o10, b10⟩
                    have HO10 := hide (own_rowI o10 (fun n hn => by
                      rcases List.mem_append.1 hn with hn | hn
                      · exact letters_mem n hn
                      · rcases List.mem_append.1 hn with hn | hn
                        · exact unhide HLI n hn
                        · exact letters_mem n hn))
                    rw [unhide HFI] at HO10
                    have HSM := hide (same_any _ _ _ _ w10 (unhide HO10) ((unhide HROW).below b10) (by rw [List.length_append, List.length_append]; omega))
                    rw [show decide (a ++ (RI ++ b) = [] ++ a ++ RI ++ b) = true by simp] at HSM
                    have HB10 := hide (belows' (unhide HB9) b10)
                    clear o10 b10 HD2 hr8 hr9
                    go_wp2_with fail
                    refine (unhide HSM).mono ?_
                    rintro e w11 ⟨rfl, b11⟩
                    have HB11 := hide (belows' (unhide HB10) b11)
                    clear b11
                    go_wp2
                    go_ret
                    exact ⟨rfl, unhide HB11⟩
end Go.Proofs.YtdallfakfhajdaaGreatDoor
