/-
  What missivelaw09.WordBack does, over this seat's program: it answers true.
-/
import Derived.Test.YtdallfakfhajdaaGreatDoorWmt
import Derived.Test.YtdallfakfhajdaaGreatDoorWlw
set_option linter.unusedVariables false
namespace Go.Proofs.YtdallfakfhajdaaGreatDoor
open Go.RowKit Go.Proofs.Enc Go.Proofs.Rns

theorem jw_len (base : Bool) : ∀ (sp : Bool) (ts : List (List UInt8)), (∀ t ∈ ts, t.length ≤ 48) → (jw base sp ts).length ≤ 175 * ts.length
  | sp, [], h => by simp [jw]
  | sp, t :: r, h => by
    have h1 := wordT_len base t
    have h2 := jw_len base true r (fun x hx => h x (List.mem_cons_of_mem _ hx))
    have h3 := h t (List.mem_cons_self ..)
    have h4 : (if sp then ([32] : List UInt8) else []).length ≤ 1 := by cases sp <;> simp
    simp only [jw, List.length_append, List.length_cons]
    omega
theorem chunk_few : ∀ (f : Nat) (l : List Int), ∀ t ∈ chunkF f l, t.length ≤ 48
  | 0, l, t, h => by simp [chunkF] at h
  | f + 1, l, t, h => by
    unfold chunkF at h
    split at h
    · simp at h
    · rcases List.mem_cons.1 h with rfl | h
      · have := utf8L_len (l.take 12)
        have h2 : (l.take 12).length ≤ 12 := by simp; omega
        omega
      · exact chunk_few f _ t h
theorem enc_len_le (base : Bool) (l : List Int) : (jw base false (chunks l)).length ≤ 175 * ((l.length + 11) / 12) := by
  have := jw_len base false (chunks l) (chunk_few _ l)
  rw [chunks_len] at this
  exact this

set_option maxHeartbeats 4000000 in
set_option maxRecDepth 100000 in
theorem wordBack_walk (a : Option Addr) (cap : Nat) (l : List Int) (base : Bool) (w : World) (ht : TabW w) (hv : RowI w (.slice a l.length cap) l) (hc : l.length ≤ cap) (hl : l.length ≤ 1048576) :
    Calls Tryz.prog 5 #[.slice a l.length cap, .bool base] w fun e w' => e = .returned (.bool true) ∧ Below w.heap.size w w' := by
  have HT := hide ht
  have HV := hide hv
  have HL := hide (livesW_any w ht)
  clear ht hv
  go_enter Tryz.func5, Tryz.ntmps5
  go_wp2_with fail
  refine (unhide HL).mono ?_
  rintro e w1 ⟨rfl, b1⟩
  have HV1 := hide ((unhide HV).below b1)
  have HT1 := hide ((unhide HT).below b1)
  have HB := hide b1
  have HE := hide (encodeW_any a cap l base w1 (unhide HT1).tab.toRTab (unhide HV1) hc (by omega))
  clear HL b1 HT HV
  rcases encW_cases base l with he | ⟨hi, he⟩
  · rw [he] at HE
    clear he
    go_wp2_with fail
    refine (unhide HE).mono ?_
    rintro e w2 ⟨rfl, b2⟩
    have HB2 := hide (belows' (unhide HB) b2)
    clear HE b2 HB
    go_wp2
    go_ret
    exact ⟨congrArg (fun b => Ending.returned (Value.bool b)) (show (bts []).toList.isEmpty = true by rw [empty_size]; rfl), unhide HB2⟩
  · rw [he] at HE
    clear he
    have hlen := enc_len_le base l
    have hpl := jw_pl base false (chunks l)
    have hpw := pcW_jw base (chunks l)
    obtain ⟨s, hs⟩ : ∃ s, s = bts (jw base false (chunks l)) := ⟨_, rfl⟩
    have hsl : s.data.toList = jw base false (chunks l) := by rw [hs, toList_bts]
    have hss : s.size ≤ 16777216 := by rw [← sizeL, hsl]; omega
    rw [← hs] at HE
    rw [← hsl] at hpl hpw
    have HPL : Hid (∀ j (h : j < s.size), 32 ≤ s[j].toNat ∧ s[j].toNat ≤ 126) := hide (fun j h => by
      apply hpl
      have h' : j < s.data.toList.length := by rw [sizeL]; exact h
      have e : s[j] = s.data.toList[j] := by rfl
      rw [e]
      exact List.getElem_mem _)
    have HD := hide (fun W (h : TabW W) => decode_word s W h.tab h.err h.max hss)
    have HW := hide (fun W (h : TabW W) => words_word s W h.tab h.err h.max hss)
    have hfl : (pcW s.data.toList).flatMap (·.1) = (chunks l).flatMap lettersL := by rw [hpw, wds_flat]
    have hnum : wdN (pcW s.data.toList) = (l.length + 11) / 12 := by rw [hpw, wds_num, chunks_len]
    rw [hfl] at HD
    rw [hnum] at HW
    have HIS : Hid (∀ n ∈ (chunks l).flatMap lettersL, isL (n : Int) = true) := hide (fun n hn => by
      obtain ⟨t, _, ht⟩ := List.mem_flatMap.1 hn
      exact lettersL_is t n ht)
    have HBK := hide (chunks_back hi)
    clear hlen hpl hpw hs hsl hfl hnum hi
    go_wp2_with fail
    refine (unhide HE).mono ?_
    rintro e w2 ⟨rfl, b2⟩
    have HB2 := hide (belows' (unhide HB) b2)
    have HT2 := hide ((unhide HT1).below b2)
    have HV2 := hide ((unhide HV1).below b2)
    clear HE b2 HB HT1 HV1
    go_wp2
    go_loop [7] (fun z => ∃ k : Nat, z = .int .i64 k ∧ k ≤ s.size) (fun z => s.size - (intOf z).toNat)
    case atStart => exact ⟨0, rfl, Nat.zero_le _⟩
    case round =>
      obtain ⟨k, rfl, hk⟩ := hrel
      by_cases hlt : k < s.size
      · have hlt' : (k : Int) < (s.size : Int) := by omega
        obtain ⟨p1, p2⟩ := unhide HPL k hlt
        have h1' : ¬ (s[k].toNat : Int) < 32 := by omega
        have h2' : ¬ (126 : Int) < (s[k].toNat : Int) := by omega
        clear p1 p2
        go_wp2
        go_round
        case rel => exact ⟨k + 1, by go_num, by omega⟩
        case measure => simp [intOf]; omega
      · have hlt' : ¬ (k : Int) < (s.size : Int) := by omega
        have hq : ((l.length : Int) + 11) / 12 = (((l.length + 11) / 12 : Nat) : Int) := by omega
        obtain ⟨q, hqq⟩ : ∃ q, q = (l.length + 11) / 12 := ⟨_, rfl⟩
        rw [← hqq] at hq HW
        clear hqq
        go_wp2_with fail
        refine (unhide HD _ (unhide HT2)).mono ?_
        rintro e w3 ⟨v, rfl, ho, b3⟩
        have HO := hide (own_rowI ho (unhide HIS))
        have HT3 := hide ((unhide HT2).below b3)
        have HV3 := hide ((unhide HV2).below b3)
        have HB3 := hide (belows' (unhide HB2) b3)
        clear ho b3 HD
        have HS := hide (same_any _ _ _ _ _ (unhide HO) (unhide HV3) (by rw [unhide HBK]; omega))
        rw [unhide HBK, decide_eq_true rfl] at HS
        go_wp2_with fail
        refine (unhide HS).mono ?_
        rintro e w4 ⟨rfl, b4⟩
        have HT4 := hide ((unhide HT3).below b4)
        have HB4 := hide (belows' (unhide HB3) b4)
        clear b4 HS
        go_wp2_with fail
        refine (unhide HW _ (unhide HT4)).mono ?_
        rintro e w5 ⟨rfl, b5⟩
        have HB5 := hide (belows' (unhide HB4) b5)
        clear b5
        go_wp2
        go_ret
        exact ⟨rfl, unhide HB5⟩
end Go.Proofs.YtdallfakfhajdaaGreatDoor
