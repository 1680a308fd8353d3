/-
  What missiveref28.token does with a literal, over this seat's program.
-/
import Derived.Test.YtafegjbhaofgiaaDoorLyd
import Derived.Test.YtafegjbhaofgiaaDoorLxv
import Derived.Test.YtafegjbhaofgiaaDoorLxe
set_option linter.unusedVariables false
set_option linter.unusedSimpArgs false
namespace Go.Proofs.YtafegjbhaofgiaaDoor
open Go.RowKit Go.Proofs.Lx

theorem digs_mem : ∀ (d : List UInt8) (n m : Nat), digs d n = some m → ∀ c ∈ d, 48 ≤ c.toNat ∧ c.toNat ≤ 57
  | [], n, m, h => by simp
  | c :: r, n, m, h => by
    simp only [digs] at h
    split at h
    · rename_i hc
      intro x hx
      rcases List.mem_cons.1 hx with rfl | hx
      · exact hc
      · exact digs_mem r _ m h x hx
    · cases h
theorem numD_mem {d : List UInt8} {m : Nat} (h : numD d = some m) : ∀ c ∈ d, 48 ≤ c.toNat ∧ c.toNat ≤ 57 := by
  unfold numD at h
  split at h
  · cases h
  · exact digs_mem d 0 m h
theorem annB_in {q : List UInt8} (h : (123 : UInt8) ∈ q) : annB q = none := by
  cases ha : annB q with
  | none => rfl
  | some m =>
    exfalso
    unfold annB at ha
    split at ha
    · rename_i hl
      have hm := numD_mem ha
      have hq : q = q.dropLast ++ [125] := by
        have hne : q ≠ [] := by intro e; rw [e] at hl; simp at hl
        rw [List.getLast?_eq_some_getLast hne, Option.some.injEq] at hl
        rw [← hl]; exact (List.dropLast_concat_getLast hne).symm
      rw [hq, List.mem_append] at h
      rcases h with h | h
      · have : (123 : UInt8) ∈ trimE q.dropLast 43 ∨ (123 : UInt8) = 43 := by
          unfold trimE
          split
          · rename_i hl2
            have hne : q.dropLast ≠ [] := by intro e; rw [e] at hl2; simp at hl2
            rw [List.getLast?_eq_some_getLast hne, Option.some.injEq] at hl2
            rw [← List.dropLast_concat_getLast hne, List.mem_append] at h
            rcases h with h | h
            · exact Or.inl h
            · right; rw [hl2] at h; simp at h
          · exact Or.inl h
        rcases this with h | h
        · have := hm _ h; simp at this
        · exact absurd h (by decide)
      · simp at h
    · cases ha
theorem ann_front {q : List UInt8} : annB q = if (123 : UInt8) ∈ q then none else annL (123 :: q) := by
  by_cases h : (123 : UInt8) ∈ q
  · rw [if_pos h, annB_in h]
  · rw [if_neg h]
    unfold annL
    rw [show lastB (123 :: q) = some q from lastB_of h []]; rfl
theorem trimE_head2 {l : List UInt8} (h : l.head? = some 123) : ∃ q, trimE l 13 = 123 :: q := by
  cases l with
  | nil => simp at h
  | cons c r =>
    simp at h; subst h
    unfold trimE
    cases r with
    | nil => exact ⟨[], by simp⟩
    | cons d r => split <;> exact ⟨_, by simp [List.dropLast]; try rfl⟩
/-- No further bracket among the first k bytes. -/
def noB (T : ByteArray) (k : Nat) : Bool := decide ((123 : UInt8) ∉ (T.data.toList.take k).drop 1)
theorem noB_one (T : ByteArray) : noB T 1 = true := by
  unfold noB
  rw [decide_eq_true_iff, List.drop_of_length_le (by rw [List.length_take]; omega)]
  simp
theorem noB_next {T : ByteArray} {k : Nat} (h : k < T.size) (h1 : 1 ≤ k) : noB T (k + 1) = (noB T k && !decide (T[k] = 123)) := by
  unfold noB
  rw [take_byte T k h, List.drop_append_of_le_length (by rw [List.length_take, sizeL]; omega), Bool.eq_iff_iff]
  simp only [decide_eq_true_eq, Bool.and_eq_true, Bool.not_eq_true', decide_eq_false_iff_not, List.mem_append, List.mem_singleton, not_or]
  exact ⟨fun h => ⟨h.1, fun e => h.2 e.symm⟩, fun h => ⟨h.1, fun e => h.2 e.symm⟩⟩
theorem lit_parts {D l0 more : List UInt8} (hc : cutB 10 D = some (l0, more)) (hh : D.head? = some 123) : litA D = match annL (trimE l0 13) with | none => none | some b => if decide ((123 : UInt8) ∉ (trimE l0 13).drop 1) then (if more.length < b then none else some (more.take b, l0.length + 1 + b)) else none := by
  obtain ⟨q, hq⟩ := trimE_head2 (cutB_head hc hh)
  rw [litA, hc]
  simp only [hq, List.drop_succ_cons, List.drop_zero]
  rw [ann_front]
  by_cases h : (123 : UInt8) ∈ q
  · rw [if_pos h]
    cases annL (123 :: q) with
    | none => rfl
    | some b => simp [h]
  · rw [if_neg h]
    cases annL (123 :: q) with
    | none => rfl
    | some b => simp [h]
theorem lit_rest {D l0 more : List UInt8} {n : Nat} (hc : cutB 10 D = some (l0, more)) : D.drop (l0.length + 1 + n) = more.drop n := by
  obtain ⟨hr, _⟩ := cutB_some hc
  rw [← List.drop_drop, hr]
  congr 1
  rw [List.drop_append, List.drop_of_length_le (by omega), show l0.length + 1 - l0.length = 1 by omega]; rfl

set_option maxHeartbeats 2000000 in
set_option maxRecDepth 100000 in
theorem refTok_lit (s : ByteArray) (w : World) (h1 : 1 ≤ s.size) (hs : s.size ≤ 4194304) (hc0 : s[0] = 123) :
    Calls Tryd.prog 31 #[.string s] w fun e w' => (∃ v, e = .returned v ∧ RefTV s.data.toList v) ∧ Below w.heap.size w w' := by
  have he : s.toList.isEmpty = false := by rw [is_empty]; exact decide_eq_false (by omega)
  have hlt0 : (0 : Int) < (s.size : Int) := by omega
  have hcl := s[0].toNat_lt
  have hl : s.data.toList = s[0] :: s.data.toList.drop 1 := by
    have := drop_byte s 0 h1
    rwa [List.drop_zero] at this
  have HT0 := hide (OneT.new w)
  have e40 : ((s[0].toNat : Int) == 40) = false := by rw [hc0]; rfl
  have e41 : ((s[0].toNat : Int) == 41) = false := by rw [hc0]; rfl
  have e34 : ((s[0].toNat : Int) == 34) = false := by rw [hc0]; rfl
  have e123 : ((s[0].toNat : Int) == 123) = true := by rw [hc0]; rfl
  have hh : s.data.toList.head? = some 123 := by rw [hl, ← hc0]; rfl
  have htk : tokA s.data.toList = (litA s.data.toList).map fun p => ((2, p.1), p.2) := by
    conv => lhs; rw [hl]
    simp only [tokA]; rw [if_neg (by rw [hc0]; decide), if_neg (by rw [hc0]; decide), if_neg (by rw [hc0]; decide), if_pos hc0, ← hl]
  have HLI := hide (fun W => refLine_any s W (by omega))
  clear hl hc0
  cases hc : cutB 10 s.data.toList with
  | none =>
    rw [hc] at HLI
    simp only [linV] at HLI
    have HF : Hid (tokA s.data.toList = none) := hide (by rw [htk, litA, hc]; rfl)
    have HA := hide (fun W => refAnn_any s W (by omega))
    have hT1 := h1
    generalize annL s.data.toList = o at HA
    clear hc htk hh
    cases o with
    | none =>
      simp only [annV] at HA
      go_enter Tryd.func31, Tryd.ntmps31
      go_upto_region 1 with (fail)
      rw [show World.alloc w (.cells #[.int .u8 0, .string ⟨#[]⟩] 39) = w.alloc (.cells zTok 39) from rfl]
      have HWE := hide (show (w.alloc (.cells zTok 39)).heap.size = w.heap.size + 1 by simp)
      generalize w.alloc (.cells zTok 39) = W at HT0 HWE ⊢
      go_wp2_with fail
      refine (unhide HLI _).mono ?_
      rintro e w1 ⟨rfl, b1⟩
      have HT1 := hide ((unhide HT0).below b1)
      clear b1
      go_wp2_with fail
      refine (unhide HA _).mono ?_
      rintro e w2 ⟨rfl, h2⟩
      subst h2
      go_wp2
      clear e40 e41 e34 e123
      go_loop [11, 12] (fun zb zi => ∃ (k : Nat) (b : Bool), zb = .bool b ∧ zi = .int .i64 k ∧ 1 ≤ k ∧ k ≤ s.size ∧ Hid (b = (false && noB s k))) (fun _ zi => s.size - (intOf zi).toNat)
      case atStart => exact ⟨1, false, rfl, rfl, by omega, hT1, hide (by rw [noB_one, Bool.and_true])⟩
      case round =>
        obtain ⟨k, b, rfl, rfl, hk1, hk, HBB⟩ := hrel
        by_cases hlt : k < s.size
        · have hlt1 : (k : Int) < (s.size : Int) := by omega
          have hck := s[k].toNat_lt
          cases b with
          | false =>
            have HB2 : Hid (false = (false && noB s (k + 1))) := hide (by rw [noB_next hlt hk1, ← Bool.and_assoc, ← unhide HBB]; rfl)
            clear HBB
            go_wp2
            go_round
            case rel => exact ⟨k + 1, false, rfl, by go_num, by omega, by omega, HB2⟩
            case measure => simp [intOf]; omega
          | true =>
            by_cases h123 : s[k] = 123
            · have e9 : ((s[k].toNat : Int) != 123) = false := by rw [h123]; rfl
              have HB2 : Hid (false = (false && noB s (k + 1))) := hide (by rw [noB_next hlt hk1, ← Bool.and_assoc, ← unhide HBB, decide_eq_true h123]; rfl)
              clear HBB h123
              go_wp2
              go_round
              case rel => exact ⟨k + 1, false, rfl, by go_num, by omega, by omega, HB2⟩
              case measure => simp [intOf]; omega
            · have e9 : ((s[k].toNat : Int) != 123) = true := by
                rw [bne_iff_ne]; intro h
                exact h123 (UInt8.toNat_inj.1 (by have : (123 : UInt8).toNat = 123 := rfl; omega))
              have HB2 : Hid (true = (false && noB s (k + 1))) := hide (by rw [noB_next hlt hk1, ← Bool.and_assoc, ← unhide HBB, decide_eq_false h123]; rfl)
              clear HBB h123
              go_wp2
              go_round
              case rel => exact ⟨k + 1, true, rfl, by go_num, by omega, by omega, HB2⟩
              case measure => simp [intOf]; omega
        · have hlt1 : ¬ (k : Int) < (s.size : Int) := by omega
          obtain rfl : k = s.size := by omega
          clear HBB
          cases b <;>
          · have c00 := (unhide HT1).k0.cell 0
            have c01 := (unhide HT1).k0.cell 1
            have f00 := (unhide HT1).k0.frozen 0
            have f01 := (unhide HT1).k0.frozen 1
            simp only [zTok, List.getElem?_toArray, List.getElem?_cons_succ, List.getElem?_cons_zero] at c00 c01
            go_wp2
            (try simp only [Exit.inBlock, Exit.then])
            refine bodyPost_ret (v := .tuple #[.agg #[.int .u8 0, .string ⟨#[]⟩], .string ⟨#[]⟩, .bool false]) ?_ rfl ⟨⟨_, rfl, refTV_none (unhide HF) ⟨_, _, _, rfl⟩⟩, (unhide HT1).fin _ _⟩
            rw [results_cell_tmp2 rfl]
            go_simp
    | some n =>
      simp only [annV] at HA
      go_enter Tryd.func31, Tryd.ntmps31
      go_upto_region 1 with (fail)
      rw [show World.alloc w (.cells #[.int .u8 0, .string ⟨#[]⟩] 39) = w.alloc (.cells zTok 39) from rfl]
      have HWE := hide (show (w.alloc (.cells zTok 39)).heap.size = w.heap.size + 1 by simp)
      generalize w.alloc (.cells zTok 39) = W at HT0 HWE ⊢
      go_wp2_with fail
      refine (unhide HLI _).mono ?_
      rintro e w1 ⟨rfl, b1⟩
      have HT1 := hide ((unhide HT0).below b1)
      clear b1
      go_wp2_with fail
      refine (unhide HA _).mono ?_
      rintro e w2 ⟨rfl, h2⟩
      subst h2
      go_wp2
      clear e40 e41 e34 e123
      go_loop [11, 12] (fun zb zi => ∃ (k : Nat) (b : Bool), zb = .bool b ∧ zi = .int .i64 k ∧ 1 ≤ k ∧ k ≤ s.size ∧ Hid (b = (true && noB s k))) (fun _ zi => s.size - (intOf zi).toNat)
      case atStart => exact ⟨1, true, rfl, rfl, by omega, hT1, hide (by rw [noB_one, Bool.and_true])⟩
      case round =>
        obtain ⟨k, b, rfl, rfl, hk1, hk, HBB⟩ := hrel
        by_cases hlt : k < s.size
        · have hlt1 : (k : Int) < (s.size : Int) := by omega
          have hck := s[k].toNat_lt
          cases b with
          | false =>
            have HB2 : Hid (false = (true && noB s (k + 1))) := hide (by rw [noB_next hlt hk1, ← Bool.and_assoc, ← unhide HBB]; rfl)
            clear HBB
            go_wp2
            go_round
            case rel => exact ⟨k + 1, false, rfl, by go_num, by omega, by omega, HB2⟩
            case measure => simp [intOf]; omega
          | true =>
            by_cases h123 : s[k] = 123
            · have e9 : ((s[k].toNat : Int) != 123) = false := by rw [h123]; rfl
              have HB2 : Hid (false = (true && noB s (k + 1))) := hide (by rw [noB_next hlt hk1, ← Bool.and_assoc, ← unhide HBB, decide_eq_true h123]; rfl)
              clear HBB h123
              go_wp2
              go_round
              case rel => exact ⟨k + 1, false, rfl, by go_num, by omega, by omega, HB2⟩
              case measure => simp [intOf]; omega
            · have e9 : ((s[k].toNat : Int) != 123) = true := by
                rw [bne_iff_ne]; intro h
                exact h123 (UInt8.toNat_inj.1 (by have : (123 : UInt8).toNat = 123 := rfl; omega))
              have HB2 : Hid (true = (true && noB s (k + 1))) := hide (by rw [noB_next hlt hk1, ← Bool.and_assoc, ← unhide HBB, decide_eq_false h123]; rfl)
              clear HBB h123
              go_wp2
              go_round
              case rel => exact ⟨k + 1, true, rfl, by go_num, by omega, by omega, HB2⟩
              case measure => simp [intOf]; omega
        · have hlt1 : ¬ (k : Int) < (s.size : Int) := by omega
          obtain rfl : k = s.size := by omega
          clear HBB
          cases b <;>
          · have c00 := (unhide HT1).k0.cell 0
            have c01 := (unhide HT1).k0.cell 1
            have f00 := (unhide HT1).k0.frozen 0
            have f01 := (unhide HT1).k0.frozen 1
            simp only [zTok, List.getElem?_toArray, List.getElem?_cons_succ, List.getElem?_cons_zero] at c00 c01
            go_wp2
            (try simp only [Exit.inBlock, Exit.then])
            refine bodyPost_ret (v := .tuple #[.agg #[.int .u8 0, .string ⟨#[]⟩], .string ⟨#[]⟩, .bool false]) ?_ rfl ⟨⟨_, rfl, refTV_none (unhide HF) ⟨_, _, _, rfl⟩⟩, (unhide HT1).fin _ _⟩
            rw [results_cell_tmp2 rfl]
            go_simp
  | some p =>
    obtain ⟨l0, more⟩ := p
    rw [hc] at HLI
    simp only [linV] at HLI
    have hlp := lit_parts hc hh
    have hlr := fun n => lit_rest (n := n) hc
    have htl := trimE_len l0 13
    obtain ⟨hr, _⟩ := cutB_some hc
    have hlen : s.size = l0.length + 1 + more.length := by rw [← sizeL, hr]; simp; omega
    have hth := trimE_head (cutB_head hc hh)
    obtain ⟨T, hT⟩ : ∃ T, T = bts (trimE l0 13) := ⟨_, rfl⟩
    have hTl : T.data.toList = trimE l0 13 := by rw [hT, toList_bts]
    have hTz : T.size = (trimE l0 13).length := by rw [hT, size_bts]
    obtain ⟨M, hM⟩ : ∃ M, M = bts more := ⟨_, rfl⟩
    have hMl : M.data.toList = more := by rw [hM, toList_bts]
    have hMz : M.size = more.length := by rw [hM, size_bts]
    rw [← hT, ← hM] at HLI
    have hT1 : 1 ≤ T.size := by omega
    have HA := hide (fun W => refAnn_any T W (by omega))
    rw [hTl] at HA
    have hnb : noB T T.size = decide ((123 : UInt8) ∉ (trimE l0 13).drop 1) := by
      unfold noB
      rw [List.take_of_length_le (by rw [sizeL]; omega), hTl]
    rw [← hnb] at hlp
    have hMs : M.size ≤ 4294967296 := by omega
    have hTs : T.size ≤ 4294967296 := by omega
    have HLT := hide (fun m (h : annL (trimE l0 13) = some m) => annL_lt h)
    clear hr hth htl hT hTl hM hlen hnb hh
    generalize annL (trimE l0 13) = o at HA hlp HLT
    cases o with
    | none =>
      simp only [annV] at HA
      have HF : Hid (tokA s.data.toList = none) := hide (by rw [htk, hlp]; rfl)
      clear htk hlp hlr hMl hMz hTz hc HLT
      go_enter Tryd.func31, Tryd.ntmps31
      go_upto_region 1 with (fail)
      rw [show World.alloc w (.cells #[.int .u8 0, .string ⟨#[]⟩] 39) = w.alloc (.cells zTok 39) from rfl]
      have HWE := hide (show (w.alloc (.cells zTok 39)).heap.size = w.heap.size + 1 by simp)
      generalize w.alloc (.cells zTok 39) = W at HT0 HWE ⊢
      go_wp2_with fail
      refine (unhide HLI _).mono ?_
      rintro e w1 ⟨rfl, b1⟩
      have HT1 := hide ((unhide HT0).below b1)
      clear b1
      go_wp2_with fail
      refine (unhide HA _).mono ?_
      rintro e w2 ⟨rfl, h2⟩
      subst h2
      go_wp2
      clear e40 e41 e34 e123
      go_loop [11, 12] (fun zb zi => ∃ (k : Nat) (b : Bool), zb = .bool b ∧ zi = .int .i64 k ∧ 1 ≤ k ∧ k ≤ T.size ∧ Hid (b = (false && noB T k))) (fun _ zi => T.size - (intOf zi).toNat)
      case atStart => exact ⟨1, false, rfl, rfl, by omega, hT1, hide (by rw [noB_one, Bool.and_true])⟩
      case round =>
        obtain ⟨k, b, rfl, rfl, hk1, hk, HBB⟩ := hrel
        by_cases hlt : k < T.size
        · have hlt1 : (k : Int) < (T.size : Int) := by omega
          have hck := T[k].toNat_lt
          cases b with
          | false =>
            have HB2 : Hid (false = (false && noB T (k + 1))) := hide (by rw [noB_next hlt hk1, ← Bool.and_assoc, ← unhide HBB]; rfl)
            clear HBB
            go_wp2
            go_round
            case rel => exact ⟨k + 1, false, rfl, by go_num, by omega, by omega, HB2⟩
            case measure => simp [intOf]; omega
          | true =>
            by_cases h123 : T[k] = 123
            · have e9 : ((T[k].toNat : Int) != 123) = false := by rw [h123]; rfl
              have HB2 : Hid (false = (false && noB T (k + 1))) := hide (by rw [noB_next hlt hk1, ← Bool.and_assoc, ← unhide HBB, decide_eq_true h123]; rfl)
              clear HBB h123
              go_wp2
              go_round
              case rel => exact ⟨k + 1, false, rfl, by go_num, by omega, by omega, HB2⟩
              case measure => simp [intOf]; omega
            · have e9 : ((T[k].toNat : Int) != 123) = true := by
                rw [bne_iff_ne]; intro h
                exact h123 (UInt8.toNat_inj.1 (by have : (123 : UInt8).toNat = 123 := rfl; omega))
              have HB2 : Hid (true = (false && noB T (k + 1))) := hide (by rw [noB_next hlt hk1, ← Bool.and_assoc, ← unhide HBB, decide_eq_false h123]; rfl)
              clear HBB h123
              go_wp2
              go_round
              case rel => exact ⟨k + 1, true, rfl, by go_num, by omega, by omega, HB2⟩
              case measure => simp [intOf]; omega
        · have hlt1 : ¬ (k : Int) < (T.size : Int) := by omega
          obtain rfl : k = T.size := by omega
          have hb := unhide HBB
          rw [Bool.false_and] at hb
          subst hb
          clear HBB
          have c00 := (unhide HT1).k0.cell 0
          have c01 := (unhide HT1).k0.cell 1
          have f00 := (unhide HT1).k0.frozen 0
          have f01 := (unhide HT1).k0.frozen 1
          simp only [zTok, List.getElem?_toArray, List.getElem?_cons_succ, List.getElem?_cons_zero] at c00 c01
          go_wp2
          (try simp only [Exit.inBlock, Exit.then])
          refine bodyPost_ret (v := .tuple #[.agg #[.int .u8 0, .string ⟨#[]⟩], .string ⟨#[]⟩, .bool false]) ?_ rfl ⟨⟨_, rfl, refTV_none (unhide HF) ⟨_, _, _, rfl⟩⟩, (unhide HT1).fin _ _⟩
          rw [results_cell_tmp2 rfl]
          go_simp
    | some n =>
      simp only [annV] at HA
      have hn9 := unhide HLT n rfl
      have HF0 : Hid (noB T T.size = false → tokA s.data.toList = none) := hide (fun h => by rw [htk, hlp, h]; rfl)
      have HF1 : Hid (noB T T.size = true → M.size < n → tokA s.data.toList = none) := hide (fun h h2 => by rw [htk, hlp, h]; simp only [if_true]; rw [if_pos (by omega)]; rfl)
      have HF2 : Hid (noB T T.size = true → ¬ M.size < n → RefTV s.data.toList (.tuple #[.agg #[.int .u8 2, .string (M.extract 0 n)], .string (M.extract n M.size), .bool true])) := hide (fun h h2 => by
        refine refTV_some (t := (2, more.take n)) (z := l0.length + 1 + n) (by rw [htk, hlp, h]; simp only [if_true]; rw [if_neg (by omega)]; rfl) ?_
        rw [hlr n]
        show _ = Value.tuple #[.agg #[.int .u8 2, .string (bts (more.take n))], .string (bts (more.drop n)), .bool true]
        rw [show bts (more.take n) = M.extract 0 n from ext_list (by rw [toList_bts, toList_upto, hMl]), show bts (more.drop n) = M.extract n M.size from ext_list (by rw [toList_bts, toList_from, hMl])])
      clear htk hlp hlr hMl hMz hTz hc HLT
      go_enter Tryd.func31, Tryd.ntmps31
      go_upto_region 1 with (fail)
      rw [show World.alloc w (.cells #[.int .u8 0, .string ⟨#[]⟩] 39) = w.alloc (.cells zTok 39) from rfl]
      have HWE := hide (show (w.alloc (.cells zTok 39)).heap.size = w.heap.size + 1 by simp)
      generalize w.alloc (.cells zTok 39) = W at HT0 HWE ⊢
      go_wp2_with fail
      refine (unhide HLI _).mono ?_
      rintro e w1 ⟨rfl, b1⟩
      have HT1 := hide ((unhide HT0).below b1)
      clear b1
      go_wp2_with fail
      refine (unhide HA _).mono ?_
      rintro e w2 ⟨rfl, h2⟩
      subst h2
      go_wp2
      clear e40 e41 e34 e123
      go_loop [11, 12] (fun zb zi => ∃ (k : Nat) (b : Bool), zb = .bool b ∧ zi = .int .i64 k ∧ 1 ≤ k ∧ k ≤ T.size ∧ Hid (b = (true && noB T k))) (fun _ zi => T.size - (intOf zi).toNat)
      case atStart => exact ⟨1, true, rfl, rfl, by omega, hT1, hide (by rw [noB_one, Bool.and_true])⟩
      case round =>
        obtain ⟨k, b, rfl, rfl, hk1, hk, HBB⟩ := hrel
        by_cases hlt : k < T.size
        · have hlt1 : (k : Int) < (T.size : Int) := by omega
          have hck := T[k].toNat_lt
          cases b with
          | false =>
            have HB2 : Hid (false = (true && noB T (k + 1))) := hide (by rw [noB_next hlt hk1, ← Bool.and_assoc, ← unhide HBB]; rfl)
            clear HBB
            go_wp2
            go_round
            case rel => exact ⟨k + 1, false, rfl, by go_num, by omega, by omega, HB2⟩
            case measure => simp [intOf]; omega
          | true =>
            by_cases h123 : T[k] = 123
            · have e9 : ((T[k].toNat : Int) != 123) = false := by rw [h123]; rfl
              have HB2 : Hid (false = (true && noB T (k + 1))) := hide (by rw [noB_next hlt hk1, ← Bool.and_assoc, ← unhide HBB, decide_eq_true h123]; rfl)
              clear HBB h123
              go_wp2
              go_round
              case rel => exact ⟨k + 1, false, rfl, by go_num, by omega, by omega, HB2⟩
              case measure => simp [intOf]; omega
            · have e9 : ((T[k].toNat : Int) != 123) = true := by
                rw [bne_iff_ne]; intro h
                exact h123 (UInt8.toNat_inj.1 (by have : (123 : UInt8).toNat = 123 := rfl; omega))
              have HB2 : Hid (true = (true && noB T (k + 1))) := hide (by rw [noB_next hlt hk1, ← Bool.and_assoc, ← unhide HBB, decide_eq_false h123]; rfl)
              clear HBB h123
              go_wp2
              go_round
              case rel => exact ⟨k + 1, true, rfl, by go_num, by omega, by omega, HB2⟩
              case measure => simp [intOf]; omega
        · have hlt1 : ¬ (k : Int) < (T.size : Int) := by omega
          obtain rfl : k = T.size := by omega
          rw [Bool.true_and] at HBB
          cases b with
          | false =>
            have HF := hide (unhide HF0 (unhide HBB).symm)
            clear HBB HF0 HF1 HF2
            have c00 := (unhide HT1).k0.cell 0
            have c01 := (unhide HT1).k0.cell 1
            have f00 := (unhide HT1).k0.frozen 0
            have f01 := (unhide HT1).k0.frozen 1
            simp only [zTok, List.getElem?_toArray, List.getElem?_cons_succ, List.getElem?_cons_zero] at c00 c01
            go_wp2
            (try simp only [Exit.inBlock, Exit.then])
            refine bodyPost_ret (v := .tuple #[.agg #[.int .u8 0, .string ⟨#[]⟩], .string ⟨#[]⟩, .bool false]) ?_ rfl ⟨⟨_, rfl, refTV_none (unhide HF) ⟨_, _, _, rfl⟩⟩, (unhide HT1).fin _ _⟩
            rw [results_cell_tmp2 rfl]
            go_simp
          | true =>
            have hnb := (unhide HBB).symm
            by_cases hm : M.size < n
            · have hm' : (M.size : Int) < (n : Int) := by omega
              have HF := hide (unhide HF1 hnb hm)
              clear HBB HF0 HF1 HF2 hnb hm
              have c00 := (unhide HT1).k0.cell 0
              have c01 := (unhide HT1).k0.cell 1
              have f00 := (unhide HT1).k0.frozen 0
              have f01 := (unhide HT1).k0.frozen 1
              simp only [zTok, List.getElem?_toArray, List.getElem?_cons_succ, List.getElem?_cons_zero] at c00 c01
              go_wp2
              (try simp only [Exit.inBlock, Exit.then])
              refine bodyPost_ret (v := .tuple #[.agg #[.int .u8 0, .string ⟨#[]⟩], .string ⟨#[]⟩, .bool false]) ?_ rfl ⟨⟨_, rfl, refTV_none (unhide HF) ⟨_, _, _, rfl⟩⟩, (unhide HT1).fin _ _⟩
              rw [results_cell_tmp2 rfl]
              go_simp
            · have hm' : ¬ (M.size : Int) < (n : Int) := by omega
              have HR := hide (unhide HF2 hnb hm)
              have hsl1 := fun W => slice_upto M (n : Int) n rfl (by omega) W
              have hsl2 := fun W => slice_from M (n : Int) n rfl (by omega) W
              clear HBB HF0 HF1 HF2 hnb
              have c00 := (unhide HT1).k0.cell 0
              have c01 := (unhide HT1).k0.cell 1
              have f00 := (unhide HT1).k0.frozen 0
              have f01 := (unhide HT1).k0.frozen 1
              simp only [zTok, List.getElem?_toArray, List.getElem?_cons_succ, List.getElem?_cons_zero] at c00 c01
              go_wp2
              go_region_with (fail)
              (try go_simp)
              (try go_wp2)
              (try simp only [Exit.inBlock, Exit.then])
              refine bodyPost_ret (v := .tuple #[.agg #[.int .u8 2, .string (M.extract 0 n)], .string (M.extract n M.size), .bool true]) ?_ rfl ⟨⟨_, rfl, unhide HR⟩, (unhide HT1).fin' _ _⟩
              rw [results_cell_tmp2 rfl]
              go_simp
end Go.Proofs.YtafegjbhaofgiaaDoor
