/-
  What missiveref09.part, name and digit do, over this seat's program.
-/
import Derived.Test.YtdallfakfhajdaaGreatDoorRqq
import Derived.Test.YtdallfakfhajdaaGreatDoorWmr
set_option linter.unusedVariables false
namespace Go.Proofs.YtdallfakfhajdaaGreatDoor
open Go.RowKit Go.Proofs.Enc Go.Proofs.Rns

/-- As Go tells it. -/
def partV (o : Option (List UInt8 × List UInt8)) : Value := match o with
  | some p => .tuple #[.string (bts p.1), .string (bts p.2), .bool true]
  | none => .tuple #[.string ⟨#[]⟩, .string ⟨#[]⟩, .bool false]
theorem upto_bts (s : ByteArray) (k : Nat) : s.extract 0 k = bts (s.data.toList.take k) := by
  apply ext_list
  rw [toList_bts]
  simp
theorem behind_bts (s : ByteArray) (k : Nat) : s.extract k s.size = bts (s.data.toList.drop k) := by
  apply ext_list
  rw [toList_bts, toList_from]
theorem take_not {s : ByteArray} {c : UInt8} {k : Nat} (h : ∀ j (h : j < s.size), j < k → s[j] ≠ c) : c ∉ s.data.toList.take k := fun hm => by
  obtain ⟨j, hj, e⟩ := List.getElem_of_mem hm
  rw [List.length_take, sizeL] at hj
  rw [List.getElem_take] at e
  exact h j (by omega) (by omega) e
theorem take_pl {s : ByteArray} {k : Nat} (h : ∀ j (h : j < s.size), j < k → plB s[j] = true) : plL (s.data.toList.take k) = true := List.all_eq_true.2 fun c hm => by
  obtain ⟨j, hj, e⟩ := List.getElem_of_mem hm
  rw [List.length_take, sizeL] at hj
  rw [List.getElem_take] at e
  rw [← e]
  exact h j (by omega) (by omega)
theorem split_at (s : ByteArray) (k : Nat) (h : k < s.size) : s.data.toList = s.data.toList.take k ++ s[k] :: s.data.toList.drop (k + 1) := by
  rw [← drop_byte s k h, List.take_append_drop]

set_option maxHeartbeats 2000000 in
set_option maxRecDepth 100000 in
theorem refPart_any (s : ByteArray) (w : World) (hs : s.size ≤ 40000000) :
    Calls Tryz.prog 29 #[.string s] w fun e w' => e = .returned (partV (partR s.data.toList)) ∧ Below w.heap.size w w' := by
  go_enter Tryz.func29, Tryz.ntmps29
  go_wp2
  go_loop [5] (fun z => ∃ k : Nat, z = .int .i64 (k : Int) ∧ k ≤ s.size ∧ Hid (∀ j (h : j < s.size), j < k → s[j] ≠ 63 ∧ plB s[j] = true)) (fun z => s.size - (intOf z).toNat)
  case atStart => exact ⟨0, rfl, Nat.zero_le _, hide (fun j h hj => by omega)⟩
  case round =>
    obtain ⟨k, rfl, hk, HA⟩ := hrel
    have HN := hide (take_not (fun j h hj => (unhide HA j h hj).1))
    have HP := hide (take_pl (fun j h hj => (unhide HA j h hj).2))
    by_cases hlt : k < s.size
    · have hlt' : (k : Int) < (s.size : Int) := by omega
      have hsp := split_at s k hlt
      by_cases h63 : s[k] = 63
      · have e1 : ((s[k].toNat : Int) == 63) = true := by rw [h63]; rfl
        rw [h63] at hsp
        have hr := part_hit (s.data.toList.take k) (s.data.toList.drop (k + 1)) (unhide HN) (unhide HP)
        rw [← hsp] at hr
        have HR : Hid (partV (partR s.data.toList) = .tuple #[.string (s.extract 0 k), .string (s.extract (k + 1) s.size), .bool true]) := hide (by rw [hr, upto_bts, behind_bts]; rfl)
        clear hsp hr h63 HA HN HP
        go_wp2
        go_quiet (fail)
        go_wp2
        go_ret3
        exact ⟨by rw [unhide HR]; rfl, below_drewN (Below.refl _ _) _⟩
      · have e1 : ((s[k].toNat : Int) == 63) = false := by
          rw [beq_eq_false_iff_ne]
          intro e
          exact h63 (UInt8.toNat_inj.mp (by have : (63 : UInt8).toNat = 63 := rfl; omega))
        by_cases hp : plB s[k] = true
        · have hp2 : 33 ≤ s[k].toNat ∧ s[k].toNat ≤ 126 := of_decide_eq_true hp
          have g1 : ¬ (s[k].toNat : Int) < 33 := by omega
          have g2 : ¬ (126 : Int) < (s[k].toNat : Int) := by omega
          have HA2 : Hid (∀ j (h : j < s.size), j < k + 1 → s[j] ≠ 63 ∧ plB s[j] = true) := hide (fun j h hj => by
            by_cases e : j = k
            · subst e; exact ⟨h63, hp⟩
            · exact unhide HA j h (by omega))
          clear hp hp2 hsp h63 HA HN HP
          go_wp2
          exact ⟨⟨k + 1, by go_num, by omega, HA2⟩, by simp [intOf]; omega⟩
        · have hpf : plB s[k] = false := by simpa using hp
          have hr := part_bad (s.data.toList.take k) s[k] (s.data.toList.drop (k + 1)) h63 hpf (unhide HN)
          rw [← hsp] at hr
          have HR : Hid (partV (partR s.data.toList) = .tuple #[.string ⟨#[]⟩, .string ⟨#[]⟩, .bool false]) := hide (by rw [hr]; rfl)
          have hp2 : ¬ (33 ≤ s[k].toNat ∧ s[k].toNat ≤ 126) := fun h => hp (decide_eq_true h)
          by_cases g0 : s[k].toNat < 33
          · have g1 : (s[k].toNat : Int) < 33 := by omega
            clear hp hpf hp2 hsp hr h63 HA HN HP g0
            go_wp2
            go_ret3
            exact ⟨by rw [unhide HR]; rfl, Below.refl _ _⟩
          · have g1 : ¬ (s[k].toNat : Int) < 33 := by omega
            have g2 : (126 : Int) < (s[k].toNat : Int) := by omega
            clear hp hpf hp2 hsp hr h63 HA HN HP g0
            go_wp2
            go_ret3
            exact ⟨by rw [unhide HR]; rfl, Below.refl _ _⟩
    · have hlt' : ¬ (k : Int) < (s.size : Int) := by omega
      have hn := unhide HN
      rw [List.take_of_length_le (by rw [sizeL]; omega)] at hn
      have HR : Hid (partV (partR s.data.toList) = .tuple #[.string ⟨#[]⟩, .string ⟨#[]⟩, .bool false]) := hide (by rw [part_not _ hn]; rfl)
      clear hn HA HN HP
      go_wp2
      go_ret3
      exact ⟨by rw [unhide HR]; rfl, Below.refl _ _⟩

set_option maxHeartbeats 2000000 in
set_option maxRecDepth 100000 in
theorem refNameW_any (s : ByteArray) (w : World) (hs : s.size ≤ 40000000) :
    Calls Tryz.prog 31 #[.string s] w fun e w' => e = .returned (.string (bts (cutD 42 s.data.toList).1)) ∧ w' = w := by
  go_enter Tryz.func31, Tryz.ntmps31
  go_wp2
  go_loop [3] (fun z => ∃ k : Nat, z = .int .i64 (k : Int) ∧ k ≤ s.size ∧ Hid (∀ j (h : j < s.size), j < k → s[j] ≠ 42)) (fun z => s.size - (intOf z).toNat)
  case atStart => exact ⟨0, rfl, Nat.zero_le _, hide (fun j h hj => by omega)⟩
  case round =>
    obtain ⟨k, rfl, hk, HA⟩ := hrel
    have HN := hide (take_not (unhide HA))
    by_cases hlt : k < s.size
    · have hlt' : (k : Int) < (s.size : Int) := by omega
      have hsp := split_at s k hlt
      by_cases h42 : s[k] = 42
      · have e1 : ((s[k].toNat : Int) == 42) = true := by rw [h42]; rfl
        rw [h42] at hsp
        have hr := cutD_ahead (k := 42) (s.data.toList.take k) (s.data.toList.drop (k + 1)) (unhide HN)
        rw [← hsp] at hr
        have HR : Hid (bts (cutD 42 s.data.toList).1 = s.extract 0 k) := hide (by rw [hr, upto_bts])
        clear hsp hr h42 HA HN
        go_wp2
        go_ret
        exact ⟨by rw [unhide HR]; rfl, rfl⟩
      · have e1 : ((s[k].toNat : Int) == 42) = false := by
          rw [beq_eq_false_iff_ne]
          intro e
          exact h42 (UInt8.toNat_inj.mp (by have : (42 : UInt8).toNat = 42 := rfl; omega))
        have HA2 : Hid (∀ j (h : j < s.size), j < k + 1 → s[j] ≠ 42) := hide (fun j h hj => by
          by_cases e : j = k
          · subst e; exact h42
          · exact unhide HA j h (by omega))
        clear hsp h42 HA HN
        go_wp2
        exact ⟨⟨k + 1, by go_num, by omega, HA2⟩, by simp [intOf]; omega⟩
    · have hlt' : ¬ (k : Int) < (s.size : Int) := by omega
      have hn := unhide HN
      rw [List.take_of_length_le (by rw [sizeL]; omega)] at hn
      have HR : Hid (bts (cutD 42 s.data.toList).1 = s) := hide (by rw [cutD_none (cut_not _ hn), bts_toList])
      clear hn HA HN
      go_wp2
      go_ret
      exact ⟨by rw [unhide HR]; rfl, rfl⟩

/-- A digit's great form. -/
def upD (c : UInt8) : UInt8 := if 97 ≤ c.toNat ∧ c.toNat ≤ 102 then UInt8.ofNat (c.toNat - 32) else c
theorem upD_fin : ∀ c : Fin 256, (∀ n : Fin 16, hx n.val = upD (UInt8.ofNat c.val) → dig (UInt8.ofNat c.val) = n.val) ∧ (dig (UInt8.ofNat c.val) < 16 → hx (dig (UInt8.ofNat c.val)) = upD (UInt8.ofNat c.val)) := by decide +kernel
theorem upD_hit {c : UInt8} {n : Nat} (hn : n < 16) (h : hx n = upD c) : dig c = n := by
  have := (upD_fin ⟨c.toNat, c.toNat_lt⟩).1 ⟨n, hn⟩
  simp only [UInt8.ofNat_toNat] at this
  exact this h
theorem upD_miss {c : UInt8} (h : dig c < 16) : hx (dig c) = upD c := by
  have := (upD_fin ⟨c.toNat, c.toNat_lt⟩).2
  simp only [UInt8.ofNat_toNat] at this
  exact this h
theorem dig_none {c : UInt8} (h : ∀ j, j < 16 → hx j ≠ upD c) : dig c = 16 := by
  have h1 := dig_le c
  rcases Nat.lt_or_ge (dig c) 16 with h2 | h2
  · exact absurd (upD_miss h2) (h _ h2)
  · omega

set_option maxHeartbeats 1000000 in
set_option maxRecDepth 100000 in
theorem refDigitW_any (c : UInt8) (w : World) :
    Calls Tryz.prog 73 #[.int .u8 c.toNat] w fun e w' => e = .returned (.int .i64 (dig c : Int)) ∧ w' = w := by
  have hc := c.toNat_lt
  obtain ⟨d, hd⟩ : ∃ d, upD c = d := ⟨_, rfl⟩
  have HD := hide hd
  have key : 97 ≤ c.toNat ∧ c.toNat ≤ 102 ∧ (c.toNat : Int) - 32 = (d.toNat : Int) ∨ (¬ (97 ≤ c.toNat ∧ c.toNat ≤ 102) ∧ c = d) := by
    by_cases h : 97 ≤ c.toNat ∧ c.toNat ≤ 102
    · left
      rw [← hd, upD, if_pos h]
      refine ⟨h.1, h.2, ?_⟩
      simp
      omega
    · right
      rw [← hd, upD, if_neg h]
      exact ⟨h, rfl⟩
  clear hd
  go_enter Tryz.func73, Tryz.ntmps73
  have HC : Hid (c.toNat = c.toNat) := hide rfl
  rcases key with ⟨h1, h2, h3⟩ | ⟨h1, h2⟩
  · go_wp2
    go_loop [3] (fun z => ∃ k : Nat, z = .int .i64 k ∧ k ≤ 16 ∧ Hid (∀ j, j < k → hx j ≠ d)) (fun z => 16 - (intOf z).toNat)
    case atStart => exact ⟨0, rfl, by omega, hide (by intro j hj; omega)⟩
    case round =>
      obtain ⟨k, rfl, hk, HA⟩ := hrel
      by_cases hlt : k < 16
      · have hB : k < hexC.size := by rw [hexC_size]; exact hlt
        have hx' := hexC_get k hlt hB
        by_cases he : hx k = d
        · have hb : (((hexC[k]'hB).toNat : Int) == (d.toNat : Int)) = true := by rw [hx', he]; simp
          have hfin : dig c = k := upD_hit hlt (he.trans (unhide HD).symm)
          have HF := hide hfin
          clear hfin hx' he
          unfold hexC at hb
          go_wp2
          go_ret
          exact ⟨by rw [unhide HF]; rfl, rfl⟩
        · have hb : (((hexC[k]'hB).toNat : Int) == (d.toNat : Int)) = false := by
            rw [hx', beq_eq_false_iff_ne]
            intro e
            exact he (UInt8.toNat_inj.1 (by omega))
          have hnx : ∀ j, j < k + 1 → hx j ≠ d := by
            intro j hj
            by_cases h : j = k
            · subst h; exact he
            · exact unhide HA j (by omega)
          have HN := hide hnx
          clear hnx hx' he
          unfold hexC at hb
          go_wp2
          exact ⟨⟨k + 1, by go_num, by omega, HN⟩, by simp [intOf]; omega⟩
      · have hfin : dig c = 16 := dig_none (fun j hj => by rw [unhide HD]; exact unhide HA j (by omega))
        have HF := hide hfin
        clear hfin
        go_wp2
        go_ret
        exact ⟨by rw [unhide HF]; rfl, rfl⟩
  · subst h2
    by_cases g1 : 97 ≤ c.toNat
    all_goals
      (try have g2 : ¬ c.toNat ≤ 102 := by omega)
      clear h1
      go_wp2
      go_loop [3] (fun z => ∃ k : Nat, z = .int .i64 k ∧ k ≤ 16 ∧ Hid (∀ j, j < k → hx j ≠ c)) (fun z => 16 - (intOf z).toNat)
      case atStart => exact ⟨0, rfl, by omega, hide (by intro j hj; omega)⟩
      case round =>
        obtain ⟨k, rfl, hk, HA⟩ := hrel
        by_cases hlt : k < 16
        · have hB : k < hexC.size := by rw [hexC_size]; exact hlt
          have hx' := hexC_get k hlt hB
          by_cases he : hx k = c
          · have hb : (((hexC[k]'hB).toNat : Int) == (c.toNat : Int)) = true := by rw [hx', he]; simp
            have hfin : dig c = k := upD_hit hlt (he.trans (unhide HD).symm)
            have HF := hide hfin
            clear hfin hx' he
            unfold hexC at hb
            go_wp2
            go_ret
            exact ⟨by rw [unhide HF]; rfl, rfl⟩
          · have hb : (((hexC[k]'hB).toNat : Int) == (c.toNat : Int)) = false := by
              rw [hx', beq_eq_false_iff_ne]
              intro e
              exact he (UInt8.toNat_inj.1 (by omega))
            have hnx : ∀ j, j < k + 1 → hx j ≠ c := by
              intro j hj
              by_cases h : j = k
              · subst h; exact he
              · exact unhide HA j (by omega)
            have HN := hide hnx
            clear hnx hx' he
            unfold hexC at hb
            go_wp2
            exact ⟨⟨k + 1, by go_num, by omega, HN⟩, by simp [intOf]; omega⟩
        · have hfin : dig c = 16 := dig_none (fun j hj => by rw [unhide HD]; exact unhide HA j (by omega))
          have HF := hide hfin
          clear hfin
          go_wp2
          go_ret
          exact ⟨by rw [unhide HF]; rfl, rfl⟩

end Go.Proofs.YtdallfakfhajdaaGreatDoor
