/-
  What a packed list's reader does, over this seat's program: first, count.
-/
import Derived.Test.YtfjjigcghhohkaaPnb
set_option linter.unusedVariables false
namespace Go.Proofs.Ytfjjigcghhohkaa
open Go.RowKit Go.Proofs.Num Go.Proofs.Dct Go.Proofs.Pna

set_option maxHeartbeats 1000000 in
set_option maxRecDepth 100000 in
theorem rfirst_any (B : Nat) (T : ByteArray) (r : RS) (w : World) (h : Rdr w B T r) (hi : In T.data.toList r) (hT : T.size ≤ 140737488355328) :
    Calls Try.prog 49 #[.pointer (some ⟨B, 0, none⟩)] w fun v w' => v = .returned (.int .u32 ((firstS T.data.toList r).1 : Int)) ∧ Rdr w' B T (firstS T.data.toList r).2 ∧ But B w w' := by
  have hp := hi.pos
  rw [sizeL] at hp
  have HN := hide (rnumber_any B T r w h hp hT)
  have hin := hi.num
  have hlt := numS_lt T.data.toList r
  unfold firstS
  generalize (numS T.data.toList r).1 = n at HN hlt ⊢
  generalize (numS T.data.toList r).2 = r1 at HN hin ⊢
  have hl := hin.least
  clear h hi hp hin
  obtain ⟨L, hL⟩ : ∃ L : Int, (r1.least : Int) = L := ⟨_, rfl⟩
  have HLL := hide hL
  by_cases h0 : r1.least = 0
  · have e0 : (L == 0) = true := by rw [← hL, h0]; rfl
    rw [if_pos h0]
    have HTK := fun W (h : Rdr W B T r1) => rtake_any B T r1 n W h hlt hl
    clear h0 hL
    go_enter Try.func49, Try.ntmps49
    go_wp2_with fail
    refine (unhide HN).mono ?_
    rintro v w1 ⟨rfl, h1, b1⟩
    have c2 : w1.cell? ⟨B, 2, none⟩ = some (.int .u64 L) := by rw [← unhide HLL]; exact (Blk.cell h1 2).trans rfl
    have HB := hide b1
    have HT := hide (HTK w1 h1)
    clear h1 b1 HN HTK
    go_wp2_with fail
    refine (unhide HT).mono ?_
    rintro v w2 ⟨rfl, h2, b2⟩
    have H2 := hide h2
    have HB2 := hide ((unhide HB).trans b2)
    clear h2 b2 HT
    go_wp2
    go_ret
    exact ⟨rfl, unhide H2, unhide HB2⟩
  · have e0 : (L == 0) = false := by rw [← hL, beq_eq_false_iff_ne]; omega
    rw [if_neg h0]
    by_cases hn : n = 0
    · subst hn
      rw [if_pos rfl]
      have HTK := fun W (h : Rdr W B T r1) => rtake_any B T r1 18446744073709551615 W h (by omega) hl
      clear h0 hL
      go_enter Try.func49, Try.ntmps49
      go_wp2_with fail
      refine (unhide HN).mono ?_
      rintro v w1 ⟨rfl, h1, b1⟩
      have c2 : w1.cell? ⟨B, 2, none⟩ = some (.int .u64 L) := by rw [← unhide HLL]; exact (Blk.cell h1 2).trans rfl
      have HB := hide b1
      have HT := hide (HTK w1 h1)
      clear h1 b1 HN HTK
      go_wp2_with fail
      refine (unhide HT).mono ?_
      rintro v w2 ⟨rfl, h2, b2⟩
      have H2 := hide h2
      have HB2 := hide ((unhide HB).trans b2)
      clear h2 b2 HT
      go_wp2
      go_ret
      exact ⟨rfl, unhide H2, unhide HB2⟩
    · rw [if_neg hn]
      obtain ⟨b, hb⟩ : ∃ b : Nat, b = n - 1 := ⟨_, rfl⟩
      have HTK := fun W (h : Rdr W B T r1) => rtake_any B T r1 b W h (by omega) hl
      rw [← hb]
      have hnb : (n : Int) - 1 = (b : Int) := by omega
      have hn1 : 1 ≤ (n : Int) := by omega
      clear h0 hL hn hb
      go_enter Try.func49, Try.ntmps49
      go_wp2_with fail
      refine (unhide HN).mono ?_
      rintro v w1 ⟨rfl, h1, b1⟩
      have c2 : w1.cell? ⟨B, 2, none⟩ = some (.int .u64 L) := by rw [← unhide HLL]; exact (Blk.cell h1 2).trans rfl
      have HB := hide b1
      have HT := hide (HTK w1 h1)
      clear h1 b1 HN HTK
      go_wp2_with fail
      refine (unhide HT).mono ?_
      rintro v w2 ⟨rfl, h2, b2⟩
      have H2 := hide h2
      have HB2 := hide ((unhide HB).trans b2)
      clear h2 b2 HT
      go_wp2
      go_ret
      exact ⟨rfl, unhide H2, unhide HB2⟩

set_option maxHeartbeats 1000000 in
set_option maxRecDepth 100000 in
theorem rcount_any (B : Nat) (T : ByteArray) (r : RS) (w : World) (h : Rdr w B T r) (hi : In T.data.toList r) (hT : T.size ≤ 140737488355328) :
    Calls Try.prog 38 #[.pointer (some ⟨B, 0, none⟩)] w fun v w' => v = .returned (.int .i64 ((countS T.data.toList r).1 : Int)) ∧ Rdr w' B T (countS T.data.toList r).2 ∧ But B w w' := by
  have hp := hi.pos
  rw [sizeL] at hp
  have HN := hide (rnumber_any B T r w h hp hT)
  have hlt := numS_lt T.data.toList r
  unfold countS
  generalize hq : numS T.data.toList r = q at HN hlt ⊢
  obtain ⟨n, r1⟩ := q
  simp only at HN hlt ⊢
  clear h hi hp hq
  by_cases hn : 65536 < n
  · have hn' : (65536 : Int) < (n : Int) := by omega
    rw [if_pos hn]
    go_enter Try.func38, Try.ntmps38
    go_wp2_with fail
    refine (unhide HN).mono ?_
    rintro v w1 ⟨rfl, h1, b1⟩
    have HF := hide (rfail_any B T r1 15 w1 h1)
    have HB := hide b1
    clear h1 b1 HN hn
    go_wp2_with fail
    refine (unhide HF).mono ?_
    rintro v w2 ⟨rfl, h2, b2⟩
    have H2 := hide h2
    have HB2 := hide ((unhide HB).trans b2)
    clear h2 b2 HF
    go_wp2
    go_ret
    exact ⟨rfl, unhide H2, unhide HB2⟩
  · have hn' : ¬ (65536 : Int) < (n : Int) := by omega
    rw [if_neg hn]
    go_enter Try.func38, Try.ntmps38
    go_wp2_with fail
    refine (unhide HN).mono ?_
    rintro v w1 ⟨rfl, h1, b1⟩
    have H1 := hide h1
    clear h1 HN hn
    go_wp2
    go_ret
    exact ⟨rfl, unhide H1, b1⟩
end Go.Proofs.Ytfjjigcghhohkaa
