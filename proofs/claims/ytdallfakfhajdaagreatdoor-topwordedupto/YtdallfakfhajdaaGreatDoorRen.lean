/-
  What (*strings.Builder).WriteRune, runes.byteOf, runes.write, runes.Encode and runes.Utf8 do, over this seat's program: letters' bytes in a charset, or the error.
-/
import Derived.Test.YtdallfakfhajdaaGreatDoorRdc
set_option linter.unusedVariables false
namespace Go.Proofs.YtdallfakfhajdaaGreatDoor
open Go.RowKit Go.Proofs.Rns

theorem runeCells_eq (r : Int) : Lib.runeCells r = Lib.byteCells (Lib.encodeRune r) := by
  unfold Lib.runeCells Lib.byteCells Lib.encodeRune
  rw [List.map_map]
  apply List.map_congr_left
  intro x hx
  have hb : 0 ≤ x ∧ x < 256 := by
    unfold Lib.encodeRuneZ at hx
    repeat' split at hx
    all_goals (simp at hx; omega)
  simp only [Function.comp]
  rw [u8 _ (by omega)]
  congr 1
  omega

set_option maxHeartbeats 2000000 in
set_option maxRecDepth 100000 in
theorem writeRune_k (B b : Nat) (l : List UInt8) (r : Int) (w : World) (h : Lib.IsBuilderF 65 5 B b (Lib.byteCells l) w) (hr0 : -2147483648 ≤ r) (hr1 : r ≤ 2147483647) (hlen : l.length + 4 ≤ 140737488355328) (hBw : B ≤ w.heap.size) :
    Calls Tryz.prog 121 #[.pointer (some ⟨b, 0, none⟩), .int .i32 r] w fun e w' => (∃ n, e = .returned (.tuple #[.int .i64 n, .nilIface])) ∧ (Lib.IsBuilderF 65 5 B b (Lib.byteCells (l ++ Lib.encodeRune r)) w' ∧ Below B w w') := by
  have hll : (Lib.byteCells l).length = l.length := Lib.byteCells_length l
  go_enter Tryz.func121, Tryz.ntmps121
  go_wp2_with (go_at_call 82; refine (copyCheck_k B b (Lib.byteCells l) _ h).mono ?_)
  rintro e w1 ⟨rfl, h1, hb1, hk1⟩
  obtain ⟨hB, v, hbk, hown, hne⟩ := h1
  have c0 : w1.cell? ⟨b, 0, none⟩ = some (.pointer (some ⟨b, 0, none⟩)) := by rw [Lib.cell_of_heap hbk]; rfl
  have c1 : w1.cell? ⟨b, 1, none⟩ = some v := by rw [Lib.cell_of_heap hbk]; rfl
  have hz1 := hb1.size
  obtain ⟨ao, n', cap, rfl⟩ : ∃ ao n' cap, v = .slice ao n' cap := by
    rcases hown.2 with ⟨hv, _⟩ | ⟨g, cap, cur, fz, hv, _⟩
    · exact ⟨_, _, _, hv⟩
    · exact ⟨_, _, _, hv⟩
  go_wp2_with fail
  refine (Tryz.utf8_AppendRune_row B _ _ _ r hr0 hr1 w1 hown (by omega) (by omega)).mono ?_
  rintro e w2 ⟨v', rfl, hown', o, hgrow⟩
  have hlt : b < w1.heap.size := by
    rcases Nat.lt_or_ge b w1.heap.size with h' | h'
    · exact h'
    · simp [Array.getElem?_eq_none h'] at hbk
  have hb2 : w2.heap[b]? = some (.cells #[.pointer (some ⟨b, 0, none⟩), .slice ao n' cap] 65 (0, 0)) := by
    rw [hgrow.block b (by simp; omega) (fun e => hne e.symm), Lib.alloc_old w1 _ b hlt]
    exact hbk
  have d0 : w2.cell? ⟨b, 0, none⟩ = some (.pointer (some ⟨b, 0, none⟩)) := by rw [Lib.cell_of_heap hb2]; rfl
  have d1 : w2.cell? ⟨b, 1, none⟩ = some (.slice ao n' cap) := by rw [Lib.cell_of_heap hb2]; rfl
  have f1 : w2.frozen? ⟨b, 1, none⟩ = false := Lib.frozen_of_heap hb2 1
  have hbw : Below B w w2 := (hb1.alloc (by omega) o).grown hgrow (by simp; omega) (fun k hk => (hown.lt k hk).1)
  obtain ⟨ao', n2, cap', rfl⟩ : ∃ ao n' cap, v' = .slice ao n' cap := by
    rcases hown'.2 with ⟨hv, _⟩ | ⟨g, cap, cur, fz, hv, _⟩
    · exact ⟨_, _, _, hv⟩
    · exact ⟨_, _, _, hv⟩
  go_wp2
  go_ret2
  refine ⟨⟨_, rfl⟩, Or.inr ?_, hbw.setCell (p := ⟨b, 1, none⟩) hB _⟩
  have := Lib.BuilderAtF.put (T := 65) (e := 5) hB hb2 (bs' := Lib.byteCells l ++ Lib.runeCells r) (by simpa [hll] using hown') (by decide)
  rw [runeCells_eq, ← Lib.byteCells_append] at this
  exact this

set_option maxHeartbeats 1000000 in
set_option maxRecDepth 100000 in
theorem byteOf_any (c : Nat) (n : Int) (w : World) (ht : RTab w) (hc : 1 ≤ c ∧ c ≤ 5 ∧ c ≠ 2) (hr0 : -2147483648 ≤ n) (hr1 : n ≤ 2147483647) :
    Calls Tryz.prog 123 #[.int .u8 c, .int .i32 n] w fun e w' => e = .returned (.tuple #[.int .u8 ((byteR c n).getD 0 : Nat), .bool (byteR c n).isSome]) ∧ w' = w := by
  have HT := hide ht
  clear ht
  by_cases hbad : n = 65533
  · have hq : (n == 65533) = true := by simp [hbad]
    have hf : byteR c n = none := by rw [byteR, if_pos hbad]
    rw [hf]
    clear hf hbad
    go_enter Tryz.func123, Tryz.ntmps123
    go_wp2
    go_ret2
    exact ⟨rfl, rfl⟩
  · have hq : (n == 65533) = false := by simp [hbad]
    obtain ⟨own, hown, hown2⟩ : ∃ own : Nat, n % 256 = (own : Int) ∧ own < 256 := ⟨(n % 256).toNat, by omega, by omega⟩
    have HO := hide hown
    by_cases he : (ofB c own : Int) = n
    · have hf := byteR_hit hc hown2 he hbad
      rw [hf]
      have hl := fun W (hW : RTab W) => letterOf_any c own W hW (by omega) hown2
      have HL := hide hl
      have hb : ((ofB c own : Int) == n) = true := by simp [he]
      clear hf hl he hbad
      go_enter Tryz.func123, Tryz.ntmps123
      go_wp2_with fail
      refine (unhide HL _ (unhide HT)).mono ?_
      rintro e w1 ⟨rfl, rfl⟩
      go_wp2
      go_ret2
      exact ⟨rfl, rfl⟩
    · have hl := fun W (hW : RTab W) => letterOf_any c own W hW (by omega) hown2
      have HL := hide hl
      have hb : ((ofB c own : Int) == n) = false := by simp [he]
      have HE := hide he
      have HBAD := hide hbad
      clear hl he hbad
      go_enter Tryz.func123, Tryz.ntmps123
      go_wp2_with fail
      refine (unhide HL _ (unhide HT)).mono ?_
      rintro e w1 ⟨rfl, rfl⟩
      go_wp2
      go_loop [7] (fun z => ∃ k : Nat, z = .int .i64 k ∧ 128 ≤ k ∧ k ≤ 256 ∧ Hid (∀ b, 128 ≤ b → b < k → (ofB c b : Int) ≠ n)) (fun z => 256 - (intOf z).toNat)
      case atStart => exact ⟨128, rfl, by omega, by omega, hide (by intro b h1 h2; omega)⟩
      case round =>
        obtain ⟨k, rfl, hk1, hk2, HA⟩ := hrel
        by_cases hlt : k < 256
        · have HL2 := hide (letterOf_any c k w1 (unhide HT) (by omega) hlt)
          have hwk : (k : Int) % 256 = (k : Int) := by omega
          by_cases hk : (ofB c k : Int) = n
          · have hf := byteR_hit hc hlt hk (unhide HBAD)
            have HF := hide hf
            have hbk : ((ofB c k : Int) == n) = true := by simp [hk]
            clear hf hk
            go_wp2_with fail
            refine (unhide HL2).mono ?_
            rintro e w2 ⟨rfl, rfl⟩
            go_wp2
            go_ret2
            exact ⟨by rw [unhide HF]; rfl, rfl⟩
          · have hbk : ((ofB c k : Int) == n) = false := by simp [hk]
            have hnx : ∀ b, 128 ≤ b → b < k + 1 → (ofB c b : Int) ≠ n := by
              intro b h1 h2
              by_cases h : b = k
              · subst h; exact hk
              · exact unhide HA b h1 (by omega)
            have HN := hide hnx
            clear hnx hk
            go_wp2_with fail
            refine (unhide HL2).mono ?_
            rintro e w2 ⟨rfl, rfl⟩
            go_wp2
            exact ⟨⟨k + 1, by go_num, by omega, by omega, HN⟩, by simp [intOf]; omega⟩
        · have hf : byteR c n = none := by
            apply byteR_miss
            intro b hb256
            by_cases h : b < 128
            · intro e
              rw [ofB_low h] at e
              apply unhide HE
              have : own = b := by have := unhide HO; omega
              rw [this, ofB_low h]
              exact e
            · exact unhide HA b (by omega) (by omega)
          have HF := hide hf
          clear hf
          go_wp2
          go_ret2
          exact ⟨by rw [unhide HF]; rfl, rfl⟩
end Go.Proofs.YtdallfakfhajdaaGreatDoor
