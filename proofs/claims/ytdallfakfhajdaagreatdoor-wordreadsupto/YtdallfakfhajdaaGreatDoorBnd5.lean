/-
  What the document's windows and Of of layer 6 do, over this seat's program.
-/
import Derived.Test.YtdallfakfhajdaaGreatDoorRsm
import Derived.Laws.IdiomStrings
set_option linter.unusedVariables false
namespace Go.Proofs.YtdallfakfhajdaaGreatDoor
open Go.RowKit Go.Proofs.Rns

set_option maxHeartbeats 400000 in
set_option maxRecDepth 100000 in
theorem windows_any (w : World) : Calls Tryz.prog 119 #[] w fun e w' => ∃ v, e = .returned v ∧ RowI w' v (ints winT) ∧ Below w.heap.size w w' := by
  go_enter Tryz.func119, Tryz.ntmps119
  go_wp2
  go_ret
  exact ⟨_, rfl, lit_rowI w (ints winT) _ rfl (by decide) 32 rfl, (Below.refl _ w).alloc (Nat.le_refl _) _⟩

theorem ofB4 : ∀ b : Fin 256, b.val = 164 ∨ b.val = 166 ∨ b.val = 168 ∨ b.val = 180 ∨ b.val = 184 ∨ b.val = 188 ∨ b.val = 189 ∨ b.val = 190 ∨ ofB 4 b.val = b.val := by decide +kernel
theorem ofB_else {c b : Nat} (h1 : c ≠ 1) (h4 : c ≠ 4) (h5 : ¬ (c = 5 ∧ b < 160)) : ofB c b = b := by
  unfold ofB
  by_cases h : b < 128
  · rw [if_pos h]
  · rw [if_neg h, if_neg h1, if_neg h5, if_neg (fun x => h4 x.1)]
theorem win_len : (ints winT).length = 32 := rfl

set_option maxHeartbeats 2000000 in
set_option maxRecDepth 100000 in
/-- The document's Of. -/
theorem refOf_any (c b : Nat) (w : World) (hc : c < 256) (hb : b < 256) :
    Calls Tryz.prog 76 #[.int .u8 c, .int .u8 b] w fun e w' => e = .returned (.int .i32 (ofB c b)) ∧ Below w.heap.size w w' := by
  by_cases h128 : b < 128
  · rw [ofB_low h128]
    have q128 : (b : Int) < 128 := by omega
    go_enter Tryz.func76, Tryz.ntmps76
    go_wp2
    go_ret
    exact ⟨rfl, Below.refl _ _⟩
  have q128 : ¬ (b : Int) < 128 := by omega
  by_cases h1 : c = 1
  · rw [show ofB c b = 65533 by rw [ofB, if_neg h128, if_pos h1]]
    have e1 : ((c : Int) == 1) = true := by rw [h1]; rfl
    go_enter Tryz.func76, Tryz.ntmps76
    go_wp2
    go_ret
    exact ⟨rfl, Below.refl _ _⟩
  have e1 : ((c : Int) == 1) = false := by simp; omega
  by_cases h5 : c = 5
  · have e5 : ((c : Int) == 5) = true := by rw [h5]; rfl
    have e4 : ((c : Int) == 4) = false := by simp; omega
    by_cases h160 : b < 160
    · have q160 : (b : Int) < 160 := by omega
      have hof : (ofB c b : Int) = (ints winT)[b - 128]'(by rw [win_len]; omega) := by rw [ofB, if_neg h128, if_neg h1, if_pos ⟨h5, h160⟩]; simp [ints, List.getD, List.getElem?_eq_getElem (show b - 128 < winT.length by show b - 128 < 32; omega)]
      have HL := hide win_len
      clear h5 h1 e4
      have hk : b - 128 < (ints winT).length := by rw [win_len]; omega
      have HWI := hide (fun W => windows_any W)
      have HK := hide hk
      obtain ⟨l, hl⟩ : ∃ l, l = ints winT := ⟨_, rfl⟩
      obtain ⟨x, hx⟩ : ∃ x : Int, x = (ofB c b : Int) := ⟨_, rfl⟩
      have HX := hide (show ∀ (h : b - 128 < l.length), l[b - 128] = x by subst hl; intro h; rw [hx, hof])
      rw [← hx]
      rw [← hl] at HL HWI HK
      clear hx hl hk hof
      go_enter Tryz.func76, Tryz.ntmps76
      go_wp2_with fail
      refine (unhide HWI _).mono ?_
      rintro e w1 ⟨v, rfl, hrow, b1⟩
      obtain ⟨a, cap, rfl, _, hcl⟩ := hrow
      have hcx : ∃ g off, a = some ⟨g, off, none⟩ ∧ w1.cell? ⟨g, off + (b - 128), none⟩ = some (.int .i32 x) := by
        rcases hcl with h | ⟨g, off, ha, _, hcj⟩
        · subst h; exact absurd (unhide HL) (by simp)
        · exact ⟨g, off, ha, by rw [← unhide HX (unhide HK)]; exact hcj _ (unhide HK)⟩
      obtain ⟨g, off, rfl, hcx⟩ := hcx
      rw [unhide HL]
      obtain ⟨k, rfl⟩ : ∃ k, b = k + 128 := ⟨b - 128, by omega⟩
      rw [Nat.add_sub_cancel] at hcx
      have hk2 : k < 32 := by omega
      have hsub : (((k + 128 : Nat) : Int) - 128) = (k : Int) := by omega
      clear hcl HX HK HWI HL
      go_wp2
      go_ret
      exact ⟨rfl, b1⟩
    · have q160 : ¬ (b : Int) < 160 := by omega
      rw [ofB_else h1 (by omega) (fun x => h160 x.2)]
      clear h5 h1
      go_enter Tryz.func76, Tryz.ntmps76
      go_wp2
      go_ret
      exact ⟨rfl, Below.refl _ _⟩
  have e5 : ((c : Int) == 5) = false := by simp; omega
  by_cases h4 : c = 4
  · have e4 : ((c : Int) == 4) = true := by rw [h4]; rfl
    by_cases g164 : b = 164
    · rw [show ofB c b = 8364 by rw [h4, g164]; decide +kernel]
      have f164 : ((b : Int) == 164) = true := by rw [g164]; rfl
      go_enter Tryz.func76, Tryz.ntmps76
      go_wp2
      go_ret
      exact ⟨rfl, Below.refl _ _⟩
    have f164 : ((b : Int) == 164) = false := by simp; omega
    by_cases g166 : b = 166
    · rw [show ofB c b = 352 by rw [h4, g166]; decide +kernel]
      have f166 : ((b : Int) == 166) = true := by rw [g166]; rfl
      go_enter Tryz.func76, Tryz.ntmps76
      go_wp2
      go_ret
      exact ⟨rfl, Below.refl _ _⟩
    have f166 : ((b : Int) == 166) = false := by simp; omega
    by_cases g168 : b = 168
    · rw [show ofB c b = 353 by rw [h4, g168]; decide +kernel]
      have f168 : ((b : Int) == 168) = true := by rw [g168]; rfl
      go_enter Tryz.func76, Tryz.ntmps76
      go_wp2
      go_ret
      exact ⟨rfl, Below.refl _ _⟩
    have f168 : ((b : Int) == 168) = false := by simp; omega
    by_cases g180 : b = 180
    · rw [show ofB c b = 381 by rw [h4, g180]; decide +kernel]
      have f180 : ((b : Int) == 180) = true := by rw [g180]; rfl
      go_enter Tryz.func76, Tryz.ntmps76
      go_wp2
      go_ret
      exact ⟨rfl, Below.refl _ _⟩
    have f180 : ((b : Int) == 180) = false := by simp; omega
    by_cases g184 : b = 184
    · rw [show ofB c b = 382 by rw [h4, g184]; decide +kernel]
      have f184 : ((b : Int) == 184) = true := by rw [g184]; rfl
      go_enter Tryz.func76, Tryz.ntmps76
      go_wp2
      go_ret
      exact ⟨rfl, Below.refl _ _⟩
    have f184 : ((b : Int) == 184) = false := by simp; omega
    by_cases g188 : b = 188
    · rw [show ofB c b = 338 by rw [h4, g188]; decide +kernel]
      have f188 : ((b : Int) == 188) = true := by rw [g188]; rfl
      go_enter Tryz.func76, Tryz.ntmps76
      go_wp2
      go_ret
      exact ⟨rfl, Below.refl _ _⟩
    have f188 : ((b : Int) == 188) = false := by simp; omega
    by_cases g189 : b = 189
    · rw [show ofB c b = 339 by rw [h4, g189]; decide +kernel]
      have f189 : ((b : Int) == 189) = true := by rw [g189]; rfl
      go_enter Tryz.func76, Tryz.ntmps76
      go_wp2
      go_ret
      exact ⟨rfl, Below.refl _ _⟩
    have f189 : ((b : Int) == 189) = false := by simp; omega
    by_cases g190 : b = 190
    · rw [show ofB c b = 376 by rw [h4, g190]; decide +kernel]
      have f190 : ((b : Int) == 190) = true := by rw [g190]; rfl
      go_enter Tryz.func76, Tryz.ntmps76
      go_wp2
      go_ret
      exact ⟨rfl, Below.refl _ _⟩
    have f190 : ((b : Int) == 190) = false := by simp; omega
    rw [show ofB c b = b by rw [h4]; have h := ofB4 ⟨b, hb⟩; simp only at h; omega]
    clear h4 h5 h1 g164 g166 g168 g180 g184 g188 g189 g190
    go_enter Tryz.func76, Tryz.ntmps76
    go_wp2
    go_ret
    exact ⟨rfl, Below.refl _ _⟩
  · have e4 : ((c : Int) == 4) = false := by simp; omega
    rw [ofB_else h1 h4 (fun x => h5 x.1)]
    clear h1 h4 h5
    go_enter Tryz.func76, Tryz.ntmps76
    go_wp2
    go_ret
    exact ⟨rfl, Below.refl _ _⟩
end Go.Proofs.YtdallfakfhajdaaGreatDoor

/-
  What the document's one of layer 6 does, over this seat's program.
-/
set_option linter.unusedVariables false
namespace Go.Proofs.YtdallfakfhajdaaGreatDoor
open Go.RowKit Go.Proofs.Rns

/-- A literal of bytes, as a string. -/
theorem lit_conv (w : World) (xs : List Int) (hx : ∀ x ∈ xs, 0 ≤ x ∧ x ≤ 255) (cs : Array Value) (hcs : cs = (xs.map fun x => Value.int .u8 x).toArray) (m : Nat) (hm : m = xs.length) :
    (convert 36 9 (.slice (some ⟨w.heap.size, 0, none⟩) m m)).run Tryz.prog (w.alloc (.cells cs 5)) = .ok (.string (bts (xs.map fun x => x.toNat.toUInt8))) (w.alloc (.cells cs 5)) := by
  subst hm
  have hl : xs.length = (xs.map fun x => x.toNat.toUInt8).length := by simp
  have h := run_convert_bytes_back (P := Tryz.prog) (w.alloc (.cells cs 5)) 36 9 5 ⟨w.heap.size, 0, none⟩ xs.length (xs.map fun x => x.toNat.toUInt8) Tryz.underlying36 Tryz.underlying5 Tryz.underlying9 (fun j hj => by
    have hj' : j < xs.length := by simpa using hj
    have hadd : Addr.add ⟨w.heap.size, 0, none⟩ j = ⟨w.heap.size, j, none⟩ := by simp only [Addr.add, Nat.zero_add]; split <;> simp_all
    rw [hadd]
    have hB : Blk (w.alloc (.cells cs 5)) w.heap.size 5 cs := Blk.new w _ _
    rw [Blk.cell hB, hcs]
    have hr := hx xs[j] (List.getElem_mem hj')
    simp [List.getElem?_eq_getElem hj']
    omega)
  rw [← hl] at h
  exact h

set_option maxHeartbeats 1000000 in
set_option maxRecDepth 100000 in
/-- The document's one. -/
theorem oneB_any (n : Int) (w : World) (h : isL n = true) :
    Calls Tryz.prog 85 #[.int .i32 n] w fun e w' => e = .returned (.string (bts (Lib.encodeRune n))) ∧ Below w.heap.size w w' := by
  have hn : 0 ≤ n ∧ n ≤ 1114111 ∧ (n < 55296 ∨ 57343 < n) := by simpa [isL] using h
  clear h
  obtain ⟨h0, h1, hs⟩ := hn
  have hb : Below w.heap.size w w := Below.refl _ _
  by_cases q1 : n < 128
  · have hc := lit_conv w [n] (by simp; omega) _ rfl 1 rfl
    rw [show Lib.encodeRune n = [n].map fun x => x.toNat.toUInt8 by unfold Lib.encodeRune; rw [Lib.encodeRuneZ_one h0 (by omega)]]
    generalize bts ([n].map fun x => x.toNat.toUInt8) = x at hc ⊢
    simp only [List.map_cons, List.map_nil] at hc
    clear hs
    go_enter Tryz.func85, Tryz.ntmps85
    go_wp2
    go_ret
    exact ⟨rfl, hb.alloc (Nat.le_refl _) _⟩
  by_cases q2 : n < 2048
  · have hc := lit_conv w [192 + n / 64, 128 + n % 64] (by simp; omega) _ rfl 2 rfl
    rw [show Lib.encodeRune n = [192 + n / 64, 128 + n % 64].map fun x => x.toNat.toUInt8 by unfold Lib.encodeRune; rw [Lib.encodeRuneZ_two (by omega) (by omega)]]
    generalize bts ([192 + n / 64, 128 + n % 64].map fun x => x.toNat.toUInt8) = x at hc ⊢
    simp only [List.map_cons, List.map_nil] at hc
    clear hs
    go_enter Tryz.func85, Tryz.ntmps85
    go_wp2
    go_ret
    exact ⟨rfl, hb.alloc (Nat.le_refl _) _⟩
  by_cases q3 : n < 65536
  · have hc := lit_conv w [224 + n / 4096, 128 + n / 64 % 64, 128 + n % 64] (by simp; omega) _ rfl 3 rfl
    rw [show Lib.encodeRune n = [224 + n / 4096, 128 + n / 64 % 64, 128 + n % 64].map fun x => x.toNat.toUInt8 by unfold Lib.encodeRune; rw [Lib.encodeRuneZ_three (by omega)]]
    generalize bts ([224 + n / 4096, 128 + n / 64 % 64, 128 + n % 64].map fun x => x.toNat.toUInt8) = x at hc ⊢
    simp only [List.map_cons, List.map_nil] at hc
    clear hs
    go_enter Tryz.func85, Tryz.ntmps85
    go_wp2
    go_ret
    exact ⟨rfl, hb.alloc (Nat.le_refl _) _⟩
  · have hc := lit_conv w [240 + n / 262144, 128 + n / 4096 % 64, 128 + n / 64 % 64, 128 + n % 64] (by simp; omega) _ rfl 4 rfl
    rw [show Lib.encodeRune n = [240 + n / 262144, 128 + n / 4096 % 64, 128 + n / 64 % 64, 128 + n % 64].map fun x => x.toNat.toUInt8 by unfold Lib.encodeRune; rw [Lib.encodeRuneZ_four (by omega) (by omega)]]
    generalize bts ([240 + n / 262144, 128 + n / 4096 % 64, 128 + n / 64 % 64, 128 + n % 64].map fun x => x.toNat.toUInt8) = x at hc ⊢
    simp only [List.map_cons, List.map_nil] at hc
    clear hs
    go_enter Tryz.func85, Tryz.ntmps85
    go_wp2
    go_ret
    exact ⟨rfl, hb.alloc (Nat.le_refl _) _⟩
end Go.Proofs.YtdallfakfhajdaaGreatDoor
