/-
  What missiveref09.Encode does, over this seat's program: letters as words.
-/
import Derived.Test.YtdallfakfhajdaaGreatDoorRqq
import Derived.Test.YtdallfakfhajdaaGreatDoorRut
import Derived.Test.YtdallfakfhajdaaGreatDoorRfb
import Derived.Test.YtdallfakfhajdaaGreatDoorWmt
set_option linter.unusedVariables false
namespace Go.Proofs.YtdallfakfhajdaaGreatDoor
open Go.RowKit Go.Proofs.Enc Go.Proofs.Rns

theorem encL_all : ∀ l : List Int, (∀ n ∈ l, isL n = true) → encL 2 l = some (utf8L l)
  | [], _ => by simp [encL, utf8L]
  | n :: r, h => by
    simp only [encL]
    rw [encL_all r (fun x hx => h x (List.mem_cons_of_mem _ hx)), show encOne 2 n = some (Lib.encodeRune n) by unfold encOne; rw [if_pos rfl, if_pos (h n (List.mem_cons_self ..))]]
    simp [utf8L]
theorem encL_bad {l : List Int} {n : Int} (hm : n ∈ l) (h : isL n = false) : encL 2 l = none := by
  cases ho : encL 2 l with
  | none => rfl
  | some s =>
    have := (encL_two _ _ ho).2 n hm
    rw [h] at this
    cases this
theorem word_bts (base : Bool) (acc t : List UInt8) : bts acc ++ ((if base then ByteArray.mk #[61, 63, 85, 84, 70, 45, 56, 63, 66, 63] else ⟨#[61, 63, 85, 84, 70, 45, 56, 63, 81, 63]⟩) ++ bts (codT base t) ++ ⟨#[63, 61]⟩) = bts (acc ++ wordT base t) := by
  apply ext_list
  cases base <;> simp [toList_bts, wordT, codT]

set_option maxHeartbeats 4000000 in
set_option maxRecDepth 100000 in
theorem refEncodeW_any (a : Option Addr) (cap : Nat) (l : List Int) (base : Bool) (w : World) (hv : RowI w (.slice a l.length cap) l) (hc : l.length ≤ cap) (hl : l.length ≤ 1048576) :
    Calls Tryz.prog 18 #[.slice a l.length cap, .bool base] w fun e w' => e = .returned (.tuple #[.string (bts (encW base l).1), .int .i64 (encW base l).2]) ∧ Below w.heap.size w w' := by
  have HV := hide hv
  clear hv
  obtain ⟨L, hL⟩ : ∃ L, L = l.length := ⟨_, rfl⟩
  rw [← hL] at HV hc hl ⊢
  have HLL := hide hL
  clear hL
  go_enter Tryz.func18, Tryz.ntmps18
  go_wp2
  go_loopw [6, 7, 8, 10, 11] (fun xo z y1 y2 y3 wr => ∃ (k f : Nat) (acc : List UInt8), z = .int .i64 (k : Int) ∧ xo = .string (bts acc) ∧ k ≤ L + 11 ∧ L < f + k ∧ acc.length ≤ 20 * k ∧ Hid (k = 0 ↔ acc = []) ∧ Hid (encW base l = encF base f acc (l.drop k)) ∧ Hid (Below w.heap.size w wr)) (fun _ z _ _ _ _ => L + 12 - (intOf z).toNat)
  case atStart => exact ⟨0, L + 1, [], rfl, rfl, by omega, by omega, by simp, hide (by simp), hide (by rw [unhide HLL]; rfl), hide (Below.refl _ _)⟩
  case round =>
    obtain ⟨k, f, acc, rfl, rfl, hk, hf, hacc, HZ, HE, HB⟩ := hrel
    have hL := unhide HLL
    by_cases hlt : k < L
    · have hlt' : (k : Int) < (L : Int) := by omega
      obtain ⟨m, hm⟩ : ∃ m, m = min L (k + 12) := ⟨_, rfl⟩
      have hmin : min (L : Int) ((k : Int) + 12) = (m : Int) := by omega
      have hrun := fun W => cut_run a L cap k m (by omega) (by omega) W
      have HRC := hide (cut_rowI (f := k) (t := m) (w := w) (a := a) (cap := cap) (l := l) (by rw [← hL]; exact unhide HV) (by omega) (by omega) (by omega))
      have hcl : (cutI l k m).length = m - k := cutI_len l (by omega)
      have hct : cutI l k m = (l.drop k).take 12 := by
        unfold cutI
        by_cases h : L ≤ k + 12
        · rw [List.take_of_length_le (by rw [List.length_drop]; omega), List.take_of_length_le (by rw [List.length_drop]; omega)]
        · rw [show m - k = 12 by omega]
      have hdd : (l.drop k).drop 12 = l.drop (k + 12) := by rw [List.drop_drop]
      obtain ⟨f', rfl⟩ : ∃ f', f = f' + 1 := ⟨f - 1, by omega⟩
      have he := unhide HE
      unfold encF at he
      rw [if_neg (fun h => by have := congrArg List.length h; rw [List.length_drop, List.length_nil] at this; omega), ← hct, hdd] at he
      obtain ⟨D, hD⟩ : ∃ D, D = m - k := ⟨_, rfl⟩
      have hD12 : 1 ≤ D ∧ D ≤ 12 := by omega
      have hkm : k + D = m := by omega
      rw [← hD] at hcl
      obtain ⟨c, hc2⟩ : ∃ c, c = cutI l k m := ⟨_, rfl⟩
      rw [← hc2] at HRC hcl he
      have hsl : sliced a k m cap 1 = .slice (if cap = k then a else a.map (·.add (k * 1))) D (cap - k) := by rw [hD]; rfl
      obtain ⟨a', ha'⟩ : ∃ a', a' = (if cap = k then a else a.map (·.add (k * 1))) := ⟨_, rfl⟩
      rw [← ha'] at hsl
      rw [hsl] at HRC
      simp only [hsl] at hrun
      have HEE := hide he
      have HU := hide (fun W (h : RowI W (.slice a' D (cap - k)) c) => refUtf8_any (.slice a' D (cap - k)) c W h (by omega))
      have hB64 := fun W => refBase64_any (bts (utf8L c)) W (by rw [size_bts]; have := utf8L_len c; omega)
      have hQQ := fun W => refQ_any (bts (utf8L c)) W (by rw [size_bts]; have := utf8L_len c; omega)
      rw [toList_bts] at hB64 hQQ
      have HB64 := hide hB64
      have HQQ := hide hQQ
      have hwl := wordT_len base (utf8L c)
      have hul := utf8L_len c
      have HCE : Hid (∀ (W : World), Below w.heap.size w W → RowI W (.slice a' D (cap - k)) c) := hide (fun W hb => (unhide HRC).below hb)
      clear he hct hdd hm hD hc2 hsl ha' HRC hB64 hQQ HE hL
      go_wp2
      go_loopw [10, 28] (fun y z wq => ∃ j : Nat, z = .int .i64 (j : Int) ∧ j ≤ D ∧ Hid (∀ i (h : i < c.length), i < j → isL c[i] = true) ∧ wq = wr) (fun _ z _ => D - (intOf z).toNat)
      case atStart => exact ⟨0, rfl, Nat.zero_le _, hide (fun i h hi => by omega), rfl⟩
      case round =>
        obtain ⟨j, rfl, hj, HA, hwq⟩ := hrel
        subst hwq
        by_cases hjl : j < D
        · have hjl' : (j : Int) < (D : Int) := by omega
          have hjc : j < c.length := by omega
          have hcell : ∃ b off, a' = some ⟨b, off, none⟩ ∧ wr.cell? ⟨b, off + j, none⟩ = some (.int .i32 c[j]) := by
            obtain ⟨a2, cap2, hv2, _, h3⟩ := unhide HCE wr (unhide HB)
            injection hv2 with e1 e2 e3
            subst e1
            rcases h3 with h | ⟨b, off, ha, hb, hcj⟩
            · rw [h] at hjc; simp at hjc
            · exact ⟨b, off, ha, hcj j hjc⟩
          obtain ⟨b, off, rfl, hcx⟩ := hcell
          have HIS := hide (fun W => is_any c[j] W)
          by_cases hi : isL c[j] = true
          · have HA2 : Hid (∀ i (h : i < c.length), i < j + 1 → isL c[i] = true) := hide (fun i h hi2 => by
              by_cases e : i = j
              · subst e; exact hi
              · exact unhide HA i h (by omega))
            rw [hi] at HIS
            clear hi HA
            generalize c[j] = n at hcx HIS
            go_wp2_with fail
            refine (unhide HIS _).mono ?_
            rintro e w1 ⟨rfl, rfl⟩
            go_wp2
            exact ⟨⟨j + 1, by go_num, by omega, HA2, by first | rfl | trivial⟩, by simp [intOf]; omega⟩
          · have hi0 : isL c[j] = false := by simpa using hi
            have HF : Hid (encW base l = ([], 7)) := hide (by rw [unhide HEE, encL_bad (List.getElem_mem hjc) hi0])
            rw [hi0] at HIS
            clear hi hi0 HA HEE
            generalize c[j] = n at hcx HIS
            go_wp2_with fail
            refine (unhide HIS _).mono ?_
            rintro e w1 ⟨rfl, rfl⟩
            go_wp2
            go_ret2
            exact ⟨by rw [unhide HF]; rfl, unhide HB⟩
        · have hjl' : ¬ (j : Int) < (D : Int) := by omega
          have hall : ∀ n ∈ c, isL n = true := fun n hn => by
            obtain ⟨i, hi, rfl⟩ := List.getElem_of_mem hn
            exact unhide HA i hi (by omega)
          have he := unhide HEE
          rw [encL_all c hall] at he
          simp only at he
          have HRW := hide (unhide HCE wr (unhide HB))
          obtain ⟨acc2, hacc2⟩ : ∃ acc2, acc2 = (if acc = [] then acc else acc ++ [32]) := ⟨_, rfl⟩
          rw [← hacc2] at he
          have HF := hide he
          have hl2 : acc2.length ≤ acc.length + 1 := by rw [hacc2]; split <;> simp
          have hsz1 : (bts acc).size ≤ 20 * k := by rw [size_bts]; omega
          have hsz2 : (bts acc2).size ≤ 20 * k + 1 := by rw [size_bts]; omega
          have HNW := hide (word_bts base acc2 (utf8L c))
          have hcod : (bts (codT base (utf8L c))).size ≤ 200 := by
            have e := wordT_eq base (utf8L c)
            have := congrArg List.length e
            simp only [List.length_cons, List.length_append, List.length_nil] at this
            rw [size_bts]
            omega
          have hL3 : (acc2 ++ wordT base (utf8L c)).length ≤ 20 * (k + 12) := by rw [List.length_append]; omega
          have HL3 := hide hL3
          have HZ3 : Hid (k + 12 = 0 ↔ acc2 ++ wordT base (utf8L c) = []) := hide (by
            have := wordT_pos base (utf8L c)
            constructor
            · intro h; omega
            · intro h
              have h2 := congrArg List.length h
              rw [List.length_append, List.length_nil] at h2
              omega)
          have hk0 : (k = 0 ∧ acc2 = acc) ∨ (0 < k ∧ acc2 = acc ++ [32]) := by
            by_cases h : k = 0
            · left; exact ⟨h, by rw [hacc2, if_pos ((unhide HZ).1 h)]⟩
            · right; exact ⟨by omega, by rw [hacc2, if_neg (fun e => h ((unhide HZ).2 e))]⟩
          have hsp : bts acc ++ ⟨#[32]⟩ = bts (acc ++ [32]) := btsC acc [32]
          have hspz : (bts acc ++ ⟨#[32]⟩).size = (bts acc).size + 1 := by rw [ByteArray.size_append]; rfl
          clear he hall HA HEE hacc2 hL3 HZ hl2 hacc HCE hwl hul
          have HSP := hide hsp
          clear hsp
          rcases hk0 with ⟨hk0, e2⟩ | ⟨hk0, e2⟩
          · subst e2
            have hk0' : ¬ (0 : Int) < (k : Int) := by omega
            clear hk0 hspz HSP
            cases base
            · have hct : codT false (utf8L c) = qL (utf8L c) := rfl
              rw [hct] at hcod HNW
              rw [if_neg (by simp)] at HNW
              have hs3 : (ByteArray.mk #[61, 63, 85, 84, 70, 45, 56, 63, 81, 63] ++ bts (qL (utf8L c))).size = (bts (qL (utf8L c))).size + 10 := by rw [ByteArray.size_append]; show 10 + _ = _; omega
              have hs4 : (ByteArray.mk #[61, 63, 85, 84, 70, 45, 56, 63, 81, 63] ++ bts (qL (utf8L c)) ++ ⟨#[63, 61]⟩).size = (bts (qL (utf8L c))).size + 12 := by rw [ByteArray.size_append, hs3]; rfl
              clear hct
              generalize bts (qL (utf8L c)) = t at hcod HNW hs3 hs4 HQQ
              generalize bts acc2 = o at hsz1 hsz2 HNW ⊢
              generalize bts (utf8L c) = u at HU HQQ HB64
              go_wp2_with fail
              refine (unhide HU _ (unhide HRW)).mono ?_
              rintro e w1 ⟨rfl, b1⟩
              have HB1 := hide (belows' (unhide HB) b1)
              clear b1 HU HB HRW
              go_wp2_with fail
              refine (unhide HQQ _).mono ?_
              rintro e w2 ⟨rfl, b2⟩
              have HB2 := hide (belows' (unhide HB1) b2)
              clear b2 HB1
              clear HQQ HB64
              go_wp2
              exact ⟨⟨k + 12, f', acc2 ++ wordT false (utf8L c), by go_num, by rw [← unhide HNW], by omega, by omega, unhide HL3, HZ3, HF, HB2⟩, by simp [intOf]; omega⟩
            · have hct : codT true (utf8L c) = b64 (utf8L c) := rfl
              rw [hct] at hcod HNW
              rw [if_pos rfl] at HNW
              have hs3 : (ByteArray.mk #[61, 63, 85, 84, 70, 45, 56, 63, 66, 63] ++ bts (b64 (utf8L c))).size = (bts (b64 (utf8L c))).size + 10 := by rw [ByteArray.size_append]; show 10 + _ = _; omega
              have hs4 : (ByteArray.mk #[61, 63, 85, 84, 70, 45, 56, 63, 66, 63] ++ bts (b64 (utf8L c)) ++ ⟨#[63, 61]⟩).size = (bts (b64 (utf8L c))).size + 12 := by rw [ByteArray.size_append, hs3]; rfl
              clear hct
              generalize bts (b64 (utf8L c)) = t at hcod HNW hs3 hs4 HB64
              generalize bts acc2 = o at hsz1 hsz2 HNW ⊢
              generalize bts (utf8L c) = u at HU HQQ HB64
              go_wp2_with fail
              refine (unhide HU _ (unhide HRW)).mono ?_
              rintro e w1 ⟨rfl, b1⟩
              have HB1 := hide (belows' (unhide HB) b1)
              clear b1 HU HB HRW
              go_wp2_with fail
              refine (unhide HB64 _).mono ?_
              rintro e w2 ⟨rfl, hw2⟩
              subst hw2
              have HB2 := HB1
              clear HB1
              clear HQQ HB64
              go_wp2
              exact ⟨⟨k + 12, f', acc2 ++ wordT true (utf8L c), by go_num, by rw [← unhide HNW], by omega, by omega, unhide HL3, HZ3, HF, HB2⟩, by simp [intOf]; omega⟩
          · subst e2
            have hk0' : (0 : Int) < (k : Int) := by omega
            clear hk0
            cases base
            · have hct : codT false (utf8L c) = qL (utf8L c) := rfl
              rw [hct] at hcod HNW
              rw [if_neg (by simp)] at HNW
              have hs3 : (ByteArray.mk #[61, 63, 85, 84, 70, 45, 56, 63, 81, 63] ++ bts (qL (utf8L c))).size = (bts (qL (utf8L c))).size + 10 := by rw [ByteArray.size_append]; show 10 + _ = _; omega
              have hs4 : (ByteArray.mk #[61, 63, 85, 84, 70, 45, 56, 63, 81, 63] ++ bts (qL (utf8L c)) ++ ⟨#[63, 61]⟩).size = (bts (qL (utf8L c))).size + 12 := by rw [ByteArray.size_append, hs3]; rfl
              clear hct
              generalize bts (qL (utf8L c)) = t at hcod HNW hs3 hs4 HQQ
              rw [← unhide HSP] at HNW hsz2
              generalize bts acc = o at hsz1 hsz2 HNW hspz HSP ⊢
              generalize bts (utf8L c) = u at HU HQQ HB64
              go_wp2_with fail
              refine (unhide HU _ (unhide HRW)).mono ?_
              rintro e w1 ⟨rfl, b1⟩
              have HB1 := hide (belows' (unhide HB) b1)
              clear b1 HU HB HRW
              go_wp2_with fail
              refine (unhide HQQ _).mono ?_
              rintro e w2 ⟨rfl, b2⟩
              have HB2 := hide (belows' (unhide HB1) b2)
              clear b2 HB1
              clear HQQ HB64
              go_wp2
              exact ⟨⟨k + 12, f', (acc ++ [32]) ++ wordT false (utf8L c), by go_num, by rw [← unhide HNW], by omega, by omega, unhide HL3, HZ3, HF, HB2⟩, by simp [intOf]; omega⟩
            · have hct : codT true (utf8L c) = b64 (utf8L c) := rfl
              rw [hct] at hcod HNW
              rw [if_pos rfl] at HNW
              have hs3 : (ByteArray.mk #[61, 63, 85, 84, 70, 45, 56, 63, 66, 63] ++ bts (b64 (utf8L c))).size = (bts (b64 (utf8L c))).size + 10 := by rw [ByteArray.size_append]; show 10 + _ = _; omega
              have hs4 : (ByteArray.mk #[61, 63, 85, 84, 70, 45, 56, 63, 66, 63] ++ bts (b64 (utf8L c)) ++ ⟨#[63, 61]⟩).size = (bts (b64 (utf8L c))).size + 12 := by rw [ByteArray.size_append, hs3]; rfl
              clear hct
              generalize bts (b64 (utf8L c)) = t at hcod HNW hs3 hs4 HB64
              rw [← unhide HSP] at HNW hsz2
              generalize bts acc = o at hsz1 hsz2 HNW hspz HSP ⊢
              generalize bts (utf8L c) = u at HU HQQ HB64
              go_wp2_with fail
              refine (unhide HU _ (unhide HRW)).mono ?_
              rintro e w1 ⟨rfl, b1⟩
              have HB1 := hide (belows' (unhide HB) b1)
              clear b1 HU HB HRW
              go_wp2_with fail
              refine (unhide HB64 _).mono ?_
              rintro e w2 ⟨rfl, hw2⟩
              subst hw2
              have HB2 := HB1
              clear HB1
              clear HQQ HB64
              go_wp2
              exact ⟨⟨k + 12, f', (acc ++ [32]) ++ wordT true (utf8L c), by go_num, by rw [← unhide HNW], by omega, by omega, unhide HL3, HZ3, HF, HB2⟩, by simp [intOf]; omega⟩
    · have hlt' : ¬ (k : Int) < (L : Int) := by omega
      have HF : Hid (encW base l = (acc, 0)) := hide (by
        rw [unhide HE, List.drop_of_length_le (by omega)]
        cases f <;> simp [encF])
      clear HE HZ hL
      go_wp2
      go_ret2
      exact ⟨by rw [unhide HF]; rfl, unhide HB⟩
end Go.Proofs.YtdallfakfhajdaaGreatDoor
