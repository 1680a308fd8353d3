/-
  What runes.Decode and runes.Letters do, over this seat's program: bytes' letters in a charset, or the error.
-/
import Derived.Test.YtedpimhhbajljaaGreatDoorRdr
import Derived.Laws.MakeOwn
import Derived.Laws.AppendOwn
set_option linter.unusedVariables false
namespace Go.Proofs.YtedpimhhbajljaaGreatDoor
open Go.RowKit Go.Proofs.Rns

/-- Letters' cells. -/
def runeC (l : List Nat) : List Value := l.map fun n : Nat => Value.int .i32 (n : Int)
theorem runeC_length (l : List Nat) : (runeC l).length = l.length := by simp [runeC]
/-- How much is left to read. -/
def left (s : ByteArray) (B : Nat) (w : World) : Nat := s.size - (intOf ((w.cell? ⟨B, 1, none⟩).getD undef)).toNat
theorem left_of {s : ByteArray} {B k c : Nat} {w : World} (h : Rdr w B s k c) : left s B w = s.size - k := by
  unfold left
  rw [h.cells.2.1]
  simp [intOf]
theorem own_ne {w : World} {B : Nat} {e : TypeId} {v : Value} {n : Nat} {xs : List Value} (h : w.ownsRow (B + 1) e 1 v n xs) : v.ownBlock = none ∨ v.ownBlock ≠ some B := by
  rcases h.2 with ⟨rfl, _⟩ | ⟨g, cap, cur, rfl, hg, _⟩
  · exact Or.inl rfl
  · right
    simp only [Value.ownBlock]
    intro e
    simp at e
    omega
theorem own_mono {w : World} {B C : Nat} {e : TypeId} {size : Nat} {v : Value} {n : Nat} {xs : List Value} (h : w.ownsRow B e size v n xs) (hC : C ≤ B) : w.ownsRow C e size v n xs := by
  refine ⟨h.1, ?_⟩
  rcases h.2 with hn | ⟨g, cap, cur, hv, hb, rest⟩
  · exact Or.inl hn
  · exact Or.inr ⟨g, cap, cur, hv, by omega, rest⟩
theorem runeC_snoc (l : List Nat) (n : Nat) : runeC l ++ [Value.int .i32 (n : Int)] = runeC (l ++ [n]) := by simp [runeC]
theorem cell_one (w : World) (v : Value) (t : TypeId) : ∀ j u, [v][j]? = some u → (w.alloc (.cells #[v] t)).cell? (Addr.add ⟨w.heap.size, 0, none⟩ j) = some u := by
  intro j u hj
  match j, hj with
  | 0, hj => simp at hj; subst hj; simp [Addr.add]

theorem rInfo : (Tryz.prog.info? 21).map (fun i => (i.zero, i.size, i.bytes)) = some (some (.int .i32 0), 1, 4) := by kernel_rfl

set_option maxHeartbeats 2000000 in
set_option maxRecDepth 100000 in
/-- runes.Decode, of a charset that there is: the letters, in memory of their own. -/
theorem decode_ok (c : Nat) (s : ByteArray) (w : World) (ht : RTab w) (hc : 1 ≤ c ∧ c ≤ 5) (hs : s.size ≤ 40000000) :
    Calls Tryz.prog 53 #[.int .u8 c, .string s] w fun e w' => ∃ v, e = .returned (.tuple #[v, .int .i64 0]) ∧ w'.ownsRow w.heap.size 21 1 v (decL c s.data.toList).length (runeC (decL c s.data.toList)) ∧ Below w.heap.size w w' := by
  obtain ⟨i0, hi, hz0, hz1, hz2⟩ := info_parts rInfo
  have HT := hide ht
  have h5 := ht.size
  have HC := isCharset_any c w (by omega)
  rw [decide_eq_true hc] at HC
  have HC := hide HC
  clear ht
  go_enter Tryz.func53, Tryz.ntmps53
  go_wp2_with fail
  refine (unhide HC).mono ?_
  rintro e w1 ⟨rfl, rfl⟩
  go_wp2_with fail
  have hR0 : Rdr (w1.alloc (.cells #[.string s, .int .i64 0, .int .u8 (c : Int)] 118)) w1.heap.size s 0 c := Blk.new w1 _ _
  refine (count_any w1.heap.size s 0 c _ hR0 (by omega) (by omega)).mono ?_
  rintro e w2 ⟨n, rfl, hn, b2⟩
  have hR2 := Blk.below hR0 b2
  have hz2' := b2.size
  simp only [World.size_alloc] at hz2'
  obtain ⟨w3, hmk, hown3, hg3⟩ := run_make_own (P := Tryz.prog) w2 (w1.heap.size + 1) 51 21 i0 (.int .i32 0) 1 Tryz.underlying51 hi hz0 hz1 .i64 .i64 n (by rw [hz2]; omega) (by unfold maxLen; omega) (by omega)
  have b3 : Below w2.heap.size w2 w3 := ⟨hg3.os, hg3.tape, hg3.output, hg3.size, fun i hi' => hg3.block i hi' (by simp)⟩
  have hR3 : Rdr w3 w1.heap.size s 0 c := Blk.below hR2 b3
  have bb : Below w1.heap.size w1 w3 := belows' (((Below.refl _ w1).alloc (Nat.le_refl _) _).trans (b2.mono (by simp))) b3
  have HR3 := hide hR3
  have HO3 := hide hown3
  have HBB := hide bb
  clear hR0 hR2 hR3 hown3 bb b3 hg3 b2
  go_wp2
  go_loopw [7] (fun x wr => ∃ (k : Nat) (acc : List Nat), k ≤ s.size ∧ acc.length ≤ k ∧ Hid (Rdr wr w1.heap.size s k c) ∧ Hid (wr.ownsRow (w1.heap.size + 1) 21 1 x acc.length (runeC acc)) ∧ Hid (acc ++ decL c (s.data.toList.drop k) = decL c s.data.toList) ∧ Hid (Below w1.heap.size w1 wr)) (fun _ wr => left s w1.heap.size wr)
  case atStart => exact ⟨0, [], Nat.zero_le _, by simp, HR3, HO3, hide rfl, HBB⟩
  case round =>
    obtain ⟨k, acc, hk, hacc, HR, HO, HE, HB⟩ := hrel
    have hzr := (unhide HB).size
    have hlt5 : w1.heap.size < wr.heap.size := Blk.lt (unhide HR)
    go_wp2_with fail
    refine (more_any w1.heap.size s k c wr (unhide HR) (by omega) hk).mono ?_
    rintro e w4 ⟨rfl, nq, rfl⟩
    have HR4 : Hid (Rdr (wr.drewN nq) w1.heap.size s k c) := HR
    have HB4 : Hid (Below w1.heap.size w1 (wr.drewN nq)) := hide (below_drewN (unhide HB) _)
    have HO4 : Hid ((wr.drewN nq).ownsRow (w1.heap.size + 1) 21 1 u7 acc.length (runeC acc)) := HO
    have hsz4 : (wr.drewN nq).heap.size = wr.heap.size := rfl
    have hml : left s w1.heap.size wr = s.size - k := left_of (unhide HR)
    have HML := hide hml
    clear hml
    by_cases hlt : k < s.size
    · rw [decide_eq_true hlt]
      have hne : s.data.toList.drop k ≠ [] := by rw [drop_byte s k hlt]; simp
      have hst := stepC_le c hne
      rw [List.length_drop, sizeL] at hst
      have hfin := unhide HE
      rw [decL_step c hne, List.drop_drop] at hfin
      have HF := hide hfin
      have HLT := hide (letter_any w1.heap.size s k c (wr.drewN nq) ((unhide HT).below (unhide HB4)) (unhide HR4) (by omega) hlt (by omega) h5)
      clear hfin hne HE
      generalize (stepC c (s.data.toList.drop k)).1 = r at HF HLT
      generalize (stepC c (s.data.toList.drop k)).2 = m at HF HLT hst
      generalize wr.drewN nq = w4 at HR4 HB4 HO4 hsz4 HLT
      go_wp2_with fail
      refine (unhide HLT).mono ?_
      rintro e w5 ⟨rfl, g5, r5⟩
      have hown5 := (unhide HO4).kept g5 (own_ne (unhide HO4))
      have hz5 := g5.size
      have b5 : Below w1.heap.size w1 w5 := (unhide HB4).trans ⟨g5.os, g5.tape, g5.output, g5.size, fun i hi' => g5.block i (by omega) (by simp; omega)⟩
      have HR5 := hide r5
      have HB5 := hide b5
      clear g5 r5 b5 HLT
      go_wp2_with (at_builtin; refine wpList_append_own _ rfl _ _ 51 rfl (w1.heap.size + 1) 21 i0 (.int .i32 0) 1 4 Tryz.underlying51 hi hz0 hz1 hz2 rfl (by decide) _ _ _ rfl (hown5.alloc _) ⟨w5.heap.size, 0, none⟩ 1 1 [.int .i32 (r : Int)] rfl rfl (cell_one _ _ _) (by intro u hu; simp at hu; subst hu; rfl) (by unfold maxLen; omega) (by omega) (by simp; omega) ?_)
      intro v' w6 hown6 hgrow _
      rw [runeC_snoc] at hown6
      have r6 : Rdr w6 w1.heap.size s (k + m) c := by
        have h := Blk.below (unhide HR5) ((Below.refl _ w5).alloc (Nat.le_refl _) (.cells #[.int .i32 (r : Int)] 21))
        have hne := own_ne (hown5.alloc (.cells #[.int .i32 (r : Int)] 21))
        refine (hgrow.block w1.heap.size (Blk.lt h) ?_).trans h
        rcases hne with hne | hne
        · rw [hne]; simp
        · exact fun e => hne e.symm
      have b6 : Below w1.heap.size w1 w6 := ((unhide HB5).alloc (by omega) _).grown hgrow (by simp; omega) (fun i hi' => by
        have := (hown5.lt i hi').1
        omega)
      have hm6 := left_of r6
      have HM6 := hide hm6
      have HR6 := hide r6
      have HB6 := hide b6
      clear r6 b6 hm6
      go_wp2
      exact ⟨⟨k + m, acc ++ [r], by omega, by simp; omega, HR6, hide (by simpa using hown6), hide (by simpa using unhide HF), HB6⟩, by rw [unhide HM6, unhide HML]; omega⟩
    · rw [decide_eq_false hlt]
      have hfin : acc = decL c s.data.toList := by
        have := unhide HE
        rw [drop_end s (by omega), decL_nil] at this
        simpa using this
      have HF := hide hfin
      clear hfin HE
      go_wp2
      go_ret2
      refine ⟨u7, rfl, ?_, unhide HB4⟩
      rw [← unhide HF]
      exact own_mono (unhide HO4) (Nat.le_succ _)

set_option maxHeartbeats 400000 in
theorem decode_no (c : Nat) (s : ByteArray) (w : World) (hc : ¬ (1 ≤ c ∧ c ≤ 5)) (h256 : c < 256) :
    Calls Tryz.prog 53 #[.int .u8 c, .string s] w fun e w' => e = .returned (.tuple #[.slice none 0 0, .int .i64 14]) ∧ w' = w := by
  have HC := isCharset_any c w h256
  rw [decide_eq_false hc] at HC
  have HC := hide HC
  go_enter Tryz.func53, Tryz.ntmps53
  go_wp2_with fail
  refine (unhide HC).mono ?_
  rintro e w1 ⟨rfl, rfl⟩
  go_wp2
  go_ret2
  exact ⟨rfl, rfl⟩

/-- runes.Decode tells the letters, or the error. -/
theorem decode_any (c : Nat) (s : ByteArray) (w : World) (ht : RTab w) (hc : c < 256) (hs : s.size ≤ 40000000) :
    Calls Tryz.prog 53 #[.int .u8 c, .string s] w fun e w' => ∃ v, e = .returned (.tuple #[v, .int .i64 (decR c s.data.toList).2]) ∧ w'.ownsRow w.heap.size 21 1 v (decR c s.data.toList).1.length (runeC (decR c s.data.toList).1) ∧ Below w.heap.size w w' := by
  unfold decR
  by_cases h : 1 ≤ c ∧ c ≤ 5
  · rw [if_pos h]
    exact decode_ok c s w ht h hs
  · rw [if_neg h]
    refine (decode_no c s w h hc).mono ?_
    rintro e w1 ⟨rfl, rfl⟩
    exact ⟨_, rfl, ⟨rfl, Or.inl ⟨rfl, rfl⟩⟩, Below.refl _ _⟩

end Go.Proofs.YtedpimhhbajljaaGreatDoor
