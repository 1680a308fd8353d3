/-
  What the document's Utf8 of layer 6 does, over this seat's program.
-/
import Derived.Test.YtdallfakfhajdaaGreatDoorRon
set_option linter.unusedVariables false
namespace Go.Proofs.YtdallfakfhajdaaGreatDoor
open Go.RowKit Go.Proofs.Rns

theorem enc_bad {n : Int} (h : isL n = false) : Lib.encodeRune n = Lib.encodeRune 65533 := by
  have hn : ¬ (0 ≤ n ∧ n ≤ 1114111 ∧ (n < 55296 ∨ 57343 < n)) := by simpa [isL] using h
  unfold Lib.encodeRune Lib.encodeRuneZ
  rw [if_neg (by omega), if_neg (by omega), if_neg (by omega), if_neg (by omega)]
  rfl
theorem cat_bts (a b : List UInt8) : bts a ++ bts b = bts (a ++ b) := by
  apply ext_list
  rw [ByteArray.data_append, Array.toList_append, toList_bts, toList_bts, toList_bts]

set_option maxHeartbeats 1000000 in
set_option maxRecDepth 100000 in
/-- The document's Utf8. -/
theorem refUtf8_any (v : Value) (l : List Int) (w : World) (hv : RowI w v l) (hl : l.length ≤ 40000000) :
    Calls Tryz.prog 43 #[v] w fun e w' => e = .returned (.string (bts (utf8L l))) ∧ Below w.heap.size w w' := by
  obtain ⟨a, cap, rfl, hn, hcell⟩ := hv
  have HCL := hide hcell
  clear hn hcell
  go_enter Tryz.func43, Tryz.ntmps43
  go_wp2
  go_loopw [3, 5, 8] (fun x y z wr => ∃ k : Nat, z = .int .i64 k ∧ k ≤ l.length ∧ x = .string (bts (utf8L (l.take k))) ∧ Below w.heap.size w wr) (fun _ _ z _ => l.length - (intOf z).toNat)
  case atStart => exact ⟨0, rfl, Nat.zero_le _, rfl, Below.refl _ _⟩
  case round =>
    obtain ⟨k, rfl, hk, rfl, hbw⟩ := hrel
    by_cases hlt : k < l.length
    · have hcell : ∃ b off, a = some ⟨b, off, none⟩ ∧ wr.cell? ⟨b, off + k, none⟩ = some (.int .i32 l[k]) := by
        rcases unhide HCL with h | ⟨b, off, ha, hb, hcj⟩
        · subst h; simp at hlt
        · exact ⟨b, off, ha, (hbw.cell (p := ⟨b, off + k, none⟩) hb).trans (hcj k hlt)⟩
      obtain ⟨b, off, rfl, hcx⟩ := hcell
      have hlt' : (k : Int) < (l.length : Int) := by omega
      have hzl : (bts (utf8L (l.take k))).size ≤ 160000000 := by
        have := utf8L_len (l.take k)
        rw [size_bts]
        rw [List.length_take] at this
        omega
      have hze : (bts (Lib.encodeRune l[k])).size ≤ 4 := by rw [size_bts]; exact (enc_len _).2
      have HNX := hide (show bts (utf8L (l.take k)) ++ bts (Lib.encodeRune l[k]) = bts (utf8L (l.take (k + 1))) by rw [cat_bts, utf8L_take l k hlt])
      have HIS := hide (fun W => is_any l[k] W)
      have HW := hide hbw
      clear hbw
      by_cases hi : isL l[k] = true
      · have HO := hide (fun W => oneB_any l[k] W hi)
        rw [hi] at HIS
        clear hi
        generalize bts (Lib.encodeRune l[k]) = y at hze HNX HO
        generalize l[k] = n at hcx HIS HO
        generalize bts (utf8L (l.take k)) = x at hzl HNX ⊢
        have hsz : x.size + y.size ≤ 9223372036854775807 := by omega
        go_wp2_with fail
        refine (unhide HIS _).mono ?_
        rintro e w1 ⟨rfl, rfl⟩
        go_wp2_with fail
        refine (unhide HO _).mono ?_
        rintro e w2 ⟨rfl, b2⟩
        have HW2 := hide (belows' (unhide HW) b2)
        clear b2
        go_wp2
        exact ⟨⟨k + 1, by go_num, by omega, by rw [← unhide HNX], unhide HW2⟩, by simp [intOf]; omega⟩
      · have hi' : isL l[k] = false := by simpa using hi
        have HO := hide (fun W => oneB_any 65533 W (by decide))
        rw [enc_bad hi'] at hze HNX
        rw [hi'] at HIS
        clear hi hi'
        generalize bts (Lib.encodeRune 65533) = y at hze HNX HO
        generalize l[k] = n at hcx HIS
        generalize bts (utf8L (l.take k)) = x at hzl HNX ⊢
        have hsz : x.size + y.size ≤ 9223372036854775807 := by omega
        go_wp2_with fail
        refine (unhide HIS _).mono ?_
        rintro e w1 ⟨rfl, rfl⟩
        go_wp2_with fail
        refine (unhide HO _).mono ?_
        rintro e w2 ⟨rfl, b2⟩
        have HW2 := hide (belows' (unhide HW) b2)
        clear b2
        go_wp2
        exact ⟨⟨k + 1, by go_num, by omega, by rw [← unhide HNX], unhide HW2⟩, by simp [intOf]; omega⟩
    · have hlt' : ¬ (k : Int) < (l.length : Int) := by omega
      rw [List.take_of_length_le (by omega)]
      go_wp2
      go_ret
      exact ⟨rfl, hbw⟩
end Go.Proofs.YtdallfakfhajdaaGreatDoor
