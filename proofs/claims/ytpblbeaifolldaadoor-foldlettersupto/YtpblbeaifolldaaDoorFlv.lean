/-
  What missivelaw07.lives does, over this seat's program: the answers that the document gives are given.
-/
import Derived.Test.YtpblbeaifolldaaDoorPrt
set_option linter.unusedVariables false
namespace Go.Proofs.YtpblbeaifolldaaDoor
open Go.RowKit Go.Proofs.Rns Go.Proofs.Fol Go.Proofs.Kmp

set_option maxHeartbeats 400000 in
theorem digit_is (n : Int) (w : World) (h : 0 ≤ n ∧ n < 55296) :
    Calls Tryd.prog 61 #[.int .i32 n] w fun e w' => e = .returned (.int .u64 n) ∧ w' = w := by
  have HV := hide (is_any n w)
  have hv : isL n = true := by unfold isL; simp; omega
  rw [hv] at HV
  go_enter Tryd.func61, Tryd.ntmps61
  go_wp2_with fail
  refine (unhide HV).mono ?_
  rintro e w1 ⟨rfl, rfl⟩
  go_wp2
  go_ret
  exact ⟨by go_num, rfl⟩

set_option maxHeartbeats 400000 in
theorem refPart_is (a b c : Int) (w : World) (ha : 0 ≤ a ∧ a < 128) (hb : 0 ≤ b ∧ b < 128) (hc : 0 ≤ c ∧ c < 128) :
    Calls Tryd.prog 31 #[.int .i32 a, .int .i32 b, .int .i32 c] w fun e w' => e = .returned (.int .u64 (a * 4398046511104 + b * 2097152 + c)) ∧ w' = w := by
  have H1 := hide (digit_is a w (by omega))
  have H2 := hide (digit_is b w (by omega))
  have H3 := hide (digit_is c w (by omega))
  go_enter Tryd.func31, Tryd.ntmps31
  go_wp2_with fail
  refine (unhide H1).mono ?_
  rintro e w1 ⟨rfl, rfl⟩
  go_wp2_with fail
  refine (unhide H2).mono ?_
  rintro e w1 ⟨rfl, rfl⟩
  go_wp2_with fail
  refine (unhide H3).mono ?_
  rintro e w1 ⟨rfl, rfl⟩
  go_wp2
  go_ret
  exact ⟨by go_num, rfl⟩

set_option maxHeartbeats 1000000 in
set_option maxRecDepth 100000 in
theorem sameU_eq (g g' n cap cap' : Nat) (l : List Int) (w : World) (hn : n = l.length) (h : URow w g l) (h' : URow w g' l) (hl : l.length ≤ 1048576) :
    Calls Tryd.prog 17 #[.slice (some ⟨g, 0, none⟩) n cap, .slice (some ⟨g', 0, none⟩) n cap'] w fun e w' => e = .returned (.bool true) ∧ ∃ q, w' = w.drewN q := by
  have HU := hide h
  have HU' := hide h'
  have HN := hide hn
  have hn6 : n ≤ 1048576 := by omega
  clear h h' hn hl
  have hbe : ((n : Int) != (n : Int)) = false := by simp
  go_enter Tryd.func17, Tryd.ntmps17
  go_wp2
  go_loopw [5, 13] (fun x z wr => ∃ k q : Nat, z = .int .i64 k ∧ k ≤ n ∧ wr = w.drewN q) (fun _ z _ => n - (intOf z).toNat)
  case atStart => exact ⟨0, 0, rfl, Nat.zero_le _, rfl⟩
  case round =>
    obtain ⟨k, q, rfl, hk, rfl⟩ := hrel
    by_cases hlt : k < n
    · have hlt1 : (k : Int) < (n : Int) := by omega
      have hkl : k < l.length := by have := unhide HN; omega
      have c0 : w.cell? ⟨g, k, none⟩ = some (.int .u64 l[k]) := unhide HU k hkl
      have c1 : w.cell? ⟨g', k, none⟩ = some (.int .u64 l[k]) := unhide HU' k hkl
      generalize l[k] = x at c0 c1
      have hx : (x != x) = false := by simp
      clear hkl
      go_wp2
      go_quiet (fail)
      go_wp2
      exact ⟨⟨k + 1, q + nq, by go_num, by omega, by simp⟩, by simp [intOf]; omega⟩
    · have hlt1 : ¬ (k : Int) < (n : Int) := by omega
      go_wp2
      go_ret
      exact ⟨rfl, q, rfl⟩

theorem lit_urow (w : World) (l : List Int) (cs : Array Value) (t : TypeId) (hcs : cs = (u64C l).toArray) : URow (w.alloc (.cells cs t)) w.heap.size l := by
  intro j hj
  have h : Blk (w.alloc (.cells cs t)) w.heap.size t cs := Blk.new w _ _
  rw [Blk.cell h, hcs]
  simp [u64C, List.getElem?_eq_getElem hj]
theorem URow.below {w w' : World} {g : Nat} {l : List Int} (h : URow w g l) (hb : Below w.heap.size w w') (hg : g < w.heap.size) : URow w' g l := by
  intro j hj
  rw [hb.cell (p := ⟨g, j, none⟩) hg]
  exact h j hj
theorem alloc_below {w w' : World} (o : Obj) (h : Below (w.alloc o).heap.size (w.alloc o) w') : Below w.heap.size w w' :=
  belows' ((Below.refl _ w).alloc (Nat.le_refl _) o) h

theorem lit_text (w : World) (ht : RTab w) : Calls Tryd.prog 15 #[.string ⟨#[65, 98, 99, 65, 66]⟩] w fun e w' => ∃ v, e = .returned v ∧ RowI w' v abc ∧ Below w.heap.size w w' := by
  have h := text_any ⟨#[65, 98, 99, 65, 66]⟩ w ht (by decide)
  have e : (ints (lettersL (⟨#[65, 98, 99, 65, 66]⟩ : ByteArray).data.toList)).map oneL = abc := by decide +kernel
  rw [e] at h
  exact h
theorem lit_fold (w : World) (v : Value) (hv : RowI w v [65, 962]) : Calls Tryd.prog 13 #[v] w fun e w' => ∃ v, e = .returned v ∧ RowI w' v [97, 963] ∧ Below w.heap.size w w' := by
  have h := fold_any v [65, 962] w hv (by decide)
  have e : [65, 962].map oneL = [97, 963] := by decide +kernel
  rw [e] at h
  exact h
theorem lit_has (w : World) (v v' : Value) (hv : RowI w v abc) (hv' : RowI w v' [99, 97]) : Calls Tryd.prog 20 #[v, v'] w fun e w' => e = .returned (.bool true) ∧ Below w.heap.size w w' := by
  have h := has_any v v' abc [99, 97] w hv hv' (by decide) (by decide)
  rw [show decide (0 < places [99, 97] abc) = true by decide +kernel] at h
  exact h
theorem lit_hasno (w : World) (v v' : Value) (hv : RowI w v abc) (hv' : RowI w v' [98, 97]) : Calls Tryd.prog 20 #[v, v'] w fun e w' => e = .returned (.bool false) ∧ Below w.heap.size w w' := by
  have h := has_any v v' abc [98, 97] w hv hv' (by decide) (by decide)
  rw [show decide (0 < places [98, 97] abc) = false by decide +kernel] at h
  exact h
theorem lit_count (w : World) (v v' : Value) (hv : RowI w v abc) (hv' : RowI w v' [97, 98]) : Calls Tryd.prog 22 #[v, v'] w fun e w' => e = .returned (.int .i64 2) ∧ Below w.heap.size w w' := by
  have h := count_any' v v' abc [97, 98] w hv hv' (by decide) (by decide)
  rw [show places [97, 98] abc = 2 by decide +kernel] at h
  exact h
theorem lit_count6 (w : World) (v : Value) (hv : RowI w v abc) : Calls Tryd.prog 22 #[v, .slice none 0 0] w fun e w' => e = .returned (.int .i64 6) ∧ Below w.heap.size w w' := by
  have h := count_any' v (.slice none 0 0) abc [] w hv ⟨none, 0, rfl, by simp, Or.inl rfl⟩ (by decide) (by decide)
  rw [show places [] abc = 6 by decide +kernel] at h
  exact h
theorem lit_one (w : World) : Calls Tryd.prog 10 #[.int .i32 201] w fun e w' => e = .returned (.int .i32 233) ∧ w' = w := by
  have h := one_any 201 w (by decide)
  rw [show oneL 201 = 233 by decide +kernel] at h
  exact h
theorem lit_part0 (w : World) : Calls Tryd.prog 31 #[.int .i32 97, .int .i32 98, .int .i32 99] w fun e w' => e = .returned (.int .u64 426610717098083) ∧ w' = w := refPart_is 97 98 99 w (by decide) (by decide) (by decide)
theorem lit_part1 (w : World) : Calls Tryd.prog 31 #[.int .i32 98, .int .i32 99, .int .i32 97] w fun e w' => e = .returned (.int .u64 431008765706337) ∧ w' = w := refPart_is 98 99 97 w (by decide) (by decide) (by decide)
theorem lit_part2 (w : World) : Calls Tryd.prog 31 #[.int .i32 99, .int .i32 97, .int .i32 98] w fun e w' => e = .returned (.int .u64 435406808023138) ∧ w' = w := refPart_is 99 97 98 w (by decide) (by decide) (by decide)

set_option maxHeartbeats 1000000 in
set_option maxRecDepth 100000 in
theorem foldLives_any (w : World) (ht : RTab w) : Calls Tryd.prog 9 #[] w fun e w' => e = .returned (.bool true) ∧ Below w.heap.size w w' := by
  have H0 := hide ht
  clear ht
  go_enter Tryd.func9, Tryd.ntmps9
  go_wp2_with fail
  refine (lit_part0 _).mono ?_
  rintro e w1 ⟨rfl, rfl⟩
  go_wp2_with fail
  refine (lit_part1 _).mono ?_
  rintro e w1 ⟨rfl, rfl⟩
  go_wp2_with fail
  refine (lit_part2 _).mono ?_
  rintro e w1 ⟨rfl, rfl⟩
  go_wp2_with fail
  refine (lit_text _ (unhide H0)).mono ?_
  rintro e w1 ⟨v, rfl, hv, b1⟩
  have HV := hide hv
  clear hv
  go_wp2_with fail
  refine (lit_one _).mono ?_
  rintro e w2 ⟨rfl, rfl⟩
  go_wp2_with fail
  refine (lit_fold _ _ (lit_rowI _ [65, 962] _ rfl (by decide) 2 rfl)).mono ?_
  rintro e w3 ⟨v3, rfl, hv3, b3'⟩
  have b3 := alloc_below _ b3'
  have HV3 := hide hv3
  clear b3' hv3
  go_wp2_with fail
  refine (same_any _ _ [97, 963] [97, 963] _ ((unhide HV3).below ((Below.refl _ w3).alloc (Nat.le_refl _) _)) (lit_rowI w3 [97, 963] _ rfl (by decide) 2 rfl) (by decide)).mono ?_
  rintro e w4 ⟨rfl, b4'⟩
  have b4 := alloc_below _ b4'
  rw [show decide (([97, 963] : List Int) = [97, 963]) = true from rfl]
  have HV4 := hide (((unhide HV).below b3).below b4)
  clear b4'
  go_wp2_with fail
  refine (same_any _ _ abc [97, 98, 99, 97, 98] _ ((unhide HV4).below ((Below.refl _ w4).alloc (Nat.le_refl _) _)) (lit_rowI w4 [97, 98, 99, 97, 98] _ rfl (by decide) 5 rfl) (by decide)).mono ?_
  rintro e w5 ⟨rfl, b5'⟩
  have b5 := alloc_below _ b5'
  rw [show decide (abc = [97, 98, 99, 97, 98]) = true from rfl]
  have HV5 := hide ((unhide HV4).below b5)
  clear b5'
  go_wp2_with fail
  refine (parts_abc _ _ (unhide HV5)).mono ?_
  rintro e w6 ⟨g6, cap6, rfl, hu6, hg6, b6⟩
  have HU6 := hide hu6
  have HV6 := hide ((unhide HV5).below b6)
  clear hu6
  go_wp2_with fail
  refine (sameU_eq g6 w6.heap.size 3 cap6 3 abcP _ rfl ((unhide HU6).below ((Below.refl _ w6).alloc (Nat.le_refl _) _) hg6) (lit_urow w6 abcP _ _ rfl) (by decide)).mono ?_
  rintro e w7 ⟨rfl, q, hq⟩
  have b7 : Below w6.heap.size w6 w7 := by
    rw [hq]; exact below_drewN ((Below.refl _ w6).alloc (Nat.le_refl _) _) q
  have HV7 := hide ((unhide HV6).below b7)
  clear hq
  go_wp2_with fail
  refine (lit_has _ _ _ ((unhide HV7).below ((Below.refl _ w7).alloc (Nat.le_refl _) _)) (lit_rowI w7 [99, 97] _ rfl (by decide) 2 rfl)).mono ?_
  rintro e w8 ⟨rfl, b8'⟩
  have b8 := alloc_below _ b8'
  have HV8 := hide ((unhide HV7).below b8)
  clear b8'
  go_wp2_with fail
  refine (lit_hasno _ _ _ ((unhide HV8).below ((Below.refl _ w8).alloc (Nat.le_refl _) _)) (lit_rowI w8 [98, 97] _ rfl (by decide) 2 rfl)).mono ?_
  rintro e w9 ⟨rfl, b9'⟩
  have b9 := alloc_below _ b9'
  have HV9 := hide ((unhide HV8).below b9)
  clear b9'
  go_wp2_with fail
  refine (lit_count _ _ _ ((unhide HV9).below ((Below.refl _ w9).alloc (Nat.le_refl _) _)) (lit_rowI w9 [97, 98] _ rfl (by decide) 2 rfl)).mono ?_
  rintro e w10 ⟨rfl, b10'⟩
  have b10 := alloc_below _ b10'
  have HV10 := hide ((unhide HV9).below b10)
  clear b10'
  go_wp2_with fail
  refine (lit_count6 _ _ (unhide HV10)).mono ?_
  rintro e w11 ⟨rfl, b11⟩
  go_wp2
  go_ret
  exact ⟨rfl, belows' (belows' (belows' (belows' (belows' (belows' (belows' (belows' (belows' b1 b3) b4) b5) b6) b7) b8) b9) b10) b11⟩
end Go.Proofs.YtpblbeaifolldaaDoor
