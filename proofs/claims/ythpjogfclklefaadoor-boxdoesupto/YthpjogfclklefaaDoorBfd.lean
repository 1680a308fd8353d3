/-
  What slices.BinarySearchFunc does with a box's mails, and (*box.work).find, over this seat's program.
-/
import Derived.Test.YthpjogfclklefaaDoorBpk
set_option linter.unusedVariables false
set_option linter.unusedSimpArgs false
namespace Go.Proofs.YthpjogfclklefaaDoor
open Go.RowKit

def cmp3 (a b : Nat) : Int := if a < b then -1 else if b < a then 1 else 0
theorem cmp3_neg (a b : Nat) : cmp3 a b < 0 ↔ a < b := by unfold cmp3; split <;> (try split) <;> simp_all <;> omega
theorem cmp3_zero (a b : Nat) : cmp3 a b = 0 ↔ a = b := by unfold cmp3; split <;> (try split) <;> simp_all <;> omega

set_option maxHeartbeats 1000000 in
theorem compare32_any (a b : Nat) (w : World) : Calls Tryd.prog 45 #[.int .u32 (a : Int), .int .u32 (b : Int)] w fun e w' => e = .returned (.int .i64 (cmp3 a b)) ∧ w' = w := by
  unfold cmp3
  by_cases h1 : a < b
  · rw [if_pos h1]
    have d1 : decide (a < b) = true := decide_eq_true h1
    clear h1
    go_enter Tryd.func45, Tryd.ntmps45
    go_wp2_with (go_at_call 60; refine (isNaN_any _ _).mono ?_; rintro e w' ⟨rfl, rfl⟩)
    go_ret
    simp
  · rw [if_neg h1]
    have d1 : decide (a < b) = false := decide_eq_false h1
    by_cases h2 : b < a
    · rw [if_pos h2]
      have d2 : decide (b < a) = true := decide_eq_true h2
      clear h1 h2
      go_enter Tryd.func45, Tryd.ntmps45
      go_wp2_with (go_at_call 60; refine (isNaN_any _ _).mono ?_; rintro e w' ⟨rfl, rfl⟩)
      go_ret
      simp
    · rw [if_neg h2]
      have d2 : decide (b < a) = false := decide_eq_false h2
      clear h1 h2
      go_enter Tryd.func45, Tryd.ntmps45
      go_wp2_with (go_at_call 60; refine (isNaN_any _ _).mono ?_; rintro e w' ⟨rfl, rfl⟩)
      go_ret
      simp

set_option maxHeartbeats 400000 in
theorem cmpM_any (u f : Nat) (d s z : Int) (raw : ByteArray) (n : Nat) (w : World) :
    Calls Tryd.prog 44 #[.agg #[.int .u32 (u : Int), .int .u8 (f : Int), .int .i64 d, .int .i64 s, .int .i64 z, .string raw], .int .u32 (n : Int)] w fun e w' => e = .returned (.int .i64 (cmp3 u n)) ∧ Below w.heap.size w w' := by
  have hc := fun w => compare32_any u n w
  generalize cmp3 u n = c at *
  go_enter Tryd.func44, Tryd.ntmps44
  go_wp2_with (go_at_call 45; refine (hc _).mono ?_; rintro e w1 ⟨rfl, rfl⟩)
  go_ret
  exact ⟨rfl, (Below.refl _ w).alloc (Nat.le_refl _) _⟩

/-- The numbers of mails. -/
def uidsM (l : List Msg) : List Nat := l.map Msg.uid
/-- A mail of that number stands there. -/
def AtU (l : List Msg) (i n : Nat) : Prop := ∃ m, l[i]? = some m ∧ m.uid = n
theorem uidsM_len (l : List Msg) : (uidsM l).length = l.length := List.length_map ..
theorem uidsM_get (l : List Msg) (k : Nat) (h : k < l.length) : (uidsM l)[k]'(by rw [uidsM_len]; exact h) = l[k].uid := by simp [uidsM]

set_option maxHeartbeats 4000000 in
set_option maxRecDepth 100000 in
theorem msearch_any (v : Value) (l : List Msg) (n : Nat) (w : World) (h : RowM w v l) (hn : n ≤ 4294967295) (hl : l.length ≤ 4194304) (hr : (uidsM l).Pairwise (· < ·)) :
    Calls Tryd.prog 43 #[v, .int .u32 (n : Int), .func (.func 44) #[] #[]] w fun e w' => (∃ i : Nat, e = .returned (.tuple #[.int .i64 (i : Int), .bool (decide (n ∈ uidsM l))]) ∧ (n ∈ uidsM l → AtU l i n)) ∧ Below w.heap.size w w' := by
  have HR := hide h
  have HRI := hide hr
  obtain ⟨a, cap, rfl, hl4, hfit, _⟩ := h
  obtain ⟨T, hT⟩ : ∃ T, T = l.length := ⟨_, rfl⟩
  rw [← hT] at HR hl4 hl ⊢
  have HTL := hide hT
  clear hT hfit hr
  have HLV := hide (uidsM_len l)
  go_enter Tryd.func43, Tryd.ntmps43
  go_wp2
  go_loopw [9, 10, 11] (fun x z _ wr => ∃ i j : Nat, x = .int .i64 (i : Int) ∧ z = .int .i64 (j : Int) ∧ i ≤ j ∧ j ≤ T ∧ Hid (∀ y ∈ (uidsM l).take i, y < n) ∧ Hid (∀ y ∈ (uidsM l).drop j, n ≤ y) ∧ Hid (Below w.heap.size w wr)) (fun x z _ _ => (intOf z).toNat - (intOf x).toNat)
  case atStart => exact ⟨0, T, rfl, rfl, Nat.zero_le _, Nat.le_refl _, hide (by simp), hide (by rw [List.drop_of_length_le (by have := unhide HTL; have := unhide HLV; omega)]; simp), hide (Below.refl _ _)⟩
  case round =>
    obtain ⟨i, j, rfl, rfl, hij, hj, HA, HB, HW⟩ := hrel
    by_cases hlt : i < j
    · have hlt1 : (i : Int) < (j : Int) := by omega
      obtain ⟨m, hm⟩ : ∃ m, m = (i + j) / 2 := ⟨_, rfl⟩
      have hmd : ((i : Int) + (j : Int)) / 2 = (m : Int) := by omega
      have him : i ≤ m := by omega
      have hmj : m < j := by omega
      have hml : m < l.length := by have := unhide HTL; omega
      have hmT : (m : Int) < (T : Int) := by omega
      obtain ⟨b, off, rfl, hblt, hft, c0, c1, c2, c3, c4, c5⟩ := RowM.mail (unhide HR) (unhide HW) hml
      have hmu : m < (uidsM l).length := by rw [unhide HLV]; exact hml
      have hget : (uidsM l)[m] = l[m].uid := uidsM_get l m hml
      have HUP : Hid (l[m].uid < n → ∀ y ∈ (uidsM l).take (m + 1), y < n) := hide (by rw [← hget]; exact rise_upto (unhide HRI) hmu)
      have HDN : Hid (¬ l[m].uid < n → ∀ y ∈ (uidsM l).drop m, n ≤ y) := hide (by rw [← hget]; exact rise_from (unhide HRI) hmu)
      have hx : l[m].uid ≤ 4294967295 := hft.1
      clear hm hget hft hmu
      generalize l[m] = p at c0 c1 c2 c3 c4 c5 HUP HDN hx
      obtain ⟨u, f, d, s, z, raw⟩ := p
      simp only at c0 c1 c2 c3 c4 c5 HUP HDN hx
      have hms : IntKind.i64.wrap ((m : Int) + 1) = ((m + 1 : Nat) : Int) := by rw [IntKind.wrap_i64]; omega
      have hcm := hide (fun W => cmpM_any u f d s z raw n W)
      by_cases hxn : u < n
      · have HA2 := hide (unhide HUP hxn)
        have hneg : cmp3 u n < 0 := (cmp3_neg _ _).2 hxn
        clear HUP HDN HA hxn
        generalize cmp3 u n = c at hneg hcm
        go_wp2_with fail
        refine (unhide hcm _).mono ?_
        rintro e w1 ⟨rfl, b1⟩
        have HW2 := hide (belows' (unhide HW) b1)
        clear b1 hcm HW
        go_wp2
        exact ⟨⟨m + 1, j, by go_num, rfl, by omega, hj, HA2, HB, HW2⟩, by simp [intOf]; omega⟩
      · have HB2 := hide (unhide HDN hxn)
        have hneg : ¬ cmp3 u n < 0 := fun h => hxn ((cmp3_neg _ _).1 h)
        clear HUP HDN HB hxn
        generalize cmp3 u n = c at hneg hcm
        go_wp2_with fail
        refine (unhide hcm _).mono ?_
        rintro e w1 ⟨rfl, b1⟩
        have HW2 := hide (belows' (unhide HW) b1)
        clear b1 hcm HW
        go_wp2
        exact ⟨⟨i, m, rfl, by go_num, him, by omega, HA, HB2, HW2⟩, by simp [intOf]; omega⟩
    · have hlt1 : ¬ (i : Int) < (j : Int) := by omega
      have hie : i = j := by omega
      subst hie
      by_cases hiT : i < T
      · have hiT1 : (i : Int) < (T : Int) := by omega
        have hil : i < l.length := by have := unhide HTL; omega
        obtain ⟨b, off, rfl, hblt, hft, c0, c1, c2, c3, c4, c5⟩ := RowM.mail (unhide HR) (unhide HW) hil
        have hmu : i < (uidsM l).length := by rw [unhide HLV]; exact hil
        have hget : (uidsM l)[i] = l[i].uid := uidsM_get l i hil
        have HIN : Hid (decide (n ∈ uidsM l) = decide (l[i].uid = n)) := hide (by rw [← hget]; exact rise_in (unhide HRI) hmu (unhide HA) (unhide HB))
        have HFN : Hid (l[i].uid = n → AtU l i n) := hide (fun h => ⟨l[i], List.getElem?_eq_getElem hil, h⟩)
        clear hget hmu hft
        generalize l[i].uid = u at c0 HIN HFN
        generalize l[i].fl = f at c1
        generalize l[i].dy = d at c2
        generalize l[i].sc = s at c3
        generalize l[i].zn = z at c4
        generalize l[i].raw = raw at c5
        have hcm := hide (fun W => cmpM_any u f d s z raw n W)
        by_cases hxn : u = n
        · have hb : cmp3 u n = 0 := (cmp3_zero _ _).2 hxn
          have HF : Hid (decide (n ∈ uidsM l) = true) := hide (by rw [unhide HIN, hxn]; simp)
          have HG := hide (unhide HFN hxn)
          clear hxn HIN HFN
          rw [hb] at hcm
          clear hb
          go_wp2_with fail
          refine (unhide hcm _).mono ?_
          rintro e w1 ⟨rfl, b1⟩
          have HW2 := hide (belows' (unhide HW) b1)
          clear b1 hcm HW
          go_wp2
          refine bodyPost_ret (results_tmp2 rfl _ _ _) rfl ?_
          exact ⟨⟨i, by rw [unhide HF]; rfl, fun _ => unhide HG⟩, unhide HW2⟩
        · have hb : (cmp3 u n == 0) = false := by rw [beq_eq_false_iff_ne]; exact fun h => hxn ((cmp3_zero _ _).1 h)
          have HF : Hid (decide (n ∈ uidsM l) = false) := hide (by rw [unhide HIN]; simp [hxn])
          clear hxn HIN HFN
          generalize cmp3 u n = c at hb hcm
          go_wp2_with fail
          refine (unhide hcm _).mono ?_
          rintro e w1 ⟨rfl, b1⟩
          have HW2 := hide (belows' (unhide HW) b1)
          clear b1 hcm HW
          go_wp2
          refine bodyPost_ret (results_tmp2 rfl _ _ _) rfl ?_
          exact ⟨⟨i, by rw [unhide HF]; rfl, fun h => absurd h (of_decide_eq_false (unhide HF))⟩, unhide HW2⟩
      · have hiT1 : ¬ (i : Int) < (T : Int) := by omega
        have HF : Hid (n ∉ uidsM l) := hide (fun h => by
          have hh := unhide HA n
          rw [List.take_of_length_le (by have := unhide HTL; have := unhide HLV; omega)] at hh
          have := hh h
          omega)
        go_wp2
        refine bodyPost_ret (results_tmp2 rfl _ _ _) rfl ?_
        exact ⟨⟨i, by rw [decide_eq_false (unhide HF)]; rfl, fun h => absurd h (unhide HF)⟩, unhide HW⟩

set_option maxHeartbeats 1000000 in
set_option maxRecDepth 100000 in
theorem wfind_any (P : Nat) (v : Value) (l : List Msg) (n : Nat) (w : World) (h : RowM w v l) (hn : n ≤ 4294967295) (hl : l.length ≤ 4194304) (hr : (uidsM l).Pairwise (· < ·)) (hP : P < w.heap.size) (hc : w.cell? ⟨P, 4, none⟩ = some v) :
    Calls Tryd.prog 35 #[.pointer (some ⟨P, 0, none⟩), .int .u32 (n : Int)] w fun e w' => (∃ i : Nat, e = .returned (.tuple #[.int .i64 (i : Int), .bool (decide (n ∈ uidsM l))]) ∧ (n ∈ uidsM l → AtU l i n)) ∧ Below w.heap.size w w' := by
  have HS := hide (msearch_any v l n w h hn hl hr)
  obtain ⟨a, cap, rfl, _, _, _⟩ := h
  clear hr
  go_enter Tryd.func35, Tryd.ntmps35
  go_wp2_with fail
  refine (unhide HS).mono ?_
  rintro e w1 ⟨⟨i, rfl, HI⟩, b1⟩
  have HH := hide HI
  clear HI HS
  go_wp2
  refine bodyPost_ret (results_tmp2 rfl _ _ _) rfl ?_
  exact ⟨⟨i, rfl, unhide HH⟩, b1⟩
end Go.Proofs.YthpjogfclklefaaDoor
