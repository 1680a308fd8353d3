/-
  What a packed list's reader does, over this seat's program: fail, take, number.
-/
import Derived.Test.YtfjjigcghhohkaaPna
import Derived.Test.YtfjjigcghhohkaaSi2
import Derived.Test.YtfjjigcghhohkaaBlc
import Derived.Deep.RegionHeld3
import Derived.Deep.QuietTactic
import Derived.BigQuiet
import Derived.RangeFuncBox
set_option linter.unusedVariables false
namespace Go.Proofs.Ytfjjigcghhohkaa
open Go.RowKit Go.Proofs.Num Go.Proofs.Dct Go.Proofs.Pna

/-- A reader that lies at block B. -/
def Rdr (w : World) (B : Nat) (T : ByteArray) (r : RS) : Prop := Blk w B 66 #[.string T, .int .i64 (r.pos : Int), .int .u64 (r.least : Int), .int .i64 (r.er : Int)]
/-- All blocks but one lie as they lay. -/
structure But (B : Nat) (W W' : World) : Prop where
  os : W'.os = W.os
  tape : W'.tape = W.tape
  output : W'.output = W.output
  size : W.heap.size ≤ W'.heap.size
  block : ∀ k, k < W.heap.size → k ≠ B → W'.heap[k]? = W.heap[k]?
theorem But.refl (B : Nat) (W : World) : But B W W := ⟨rfl, rfl, rfl, Nat.le_refl _, fun _ _ _ => rfl⟩
theorem But.trans {B : Nat} {W W1 W2 : World} (h1 : But B W W1) (h2 : But B W1 W2) : But B W W2 :=
  ⟨h2.os.trans h1.os, h2.tape.trans h1.tape, h2.output.trans h1.output, Nat.le_trans h1.size h2.size, fun k hk hn => (h2.block k (by have := h1.size; omega) hn).trans (h1.block k hk hn)⟩
theorem But.of_below {B : Nat} {W W' : World} (h : Below W.heap.size W W') : But B W W' := ⟨h.os, h.tape, h.output, h.size, fun k hk _ => h.block k hk⟩
theorem But.drewN {B : Nat} {W W' : World} (h : But B W W') (q : Nat) : But B W (W'.drewN q) := ⟨h.os, h.tape, h.output, h.size, h.block⟩
theorem But.drew {B : Nat} {W W' : World} (h : But B W W') : But B W W'.drew := ⟨h.os, h.tape, h.output, h.size, h.block⟩
theorem But.set (B : Nat) (W : World) (i : Nat) (v : Value) : But B W (W.setCell ⟨B, i, none⟩ v) :=
  ⟨rfl, rfl, rfl, (KeepsWalks.setCell W _ v).size, fun k _ hk => Below.heap_setCell _ _ _ k hk⟩
theorem But.below {B C : Nat} {W W' : World} (h : But B W W') (hC : C ≤ B) (hW : C ≤ W.heap.size) : Below C W W' := ⟨h.os, h.tape, h.output, h.size, fun k hk => h.block k (by omega) (by omega)⟩
theorem Rdr.below {w w' : World} {B : Nat} {T : ByteArray} {r : RS} (h : Rdr w B T r) (hb : Below w.heap.size w w') : Rdr w' B T r := Blk.below h hb
theorem Rdr.setEr {w : World} {B : Nat} {T : ByteArray} {r : RS} (h : Rdr w B T r) (e : Nat) : Rdr (w.setCell ⟨B, 3, none⟩ (.int .i64 (e : Int))) B T { r with er := e } := Blk.set h 3 _
theorem Rdr.setPos {w : World} {B : Nat} {T : ByteArray} {r : RS} (h : Rdr w B T r) (e : Nat) : Rdr (w.setCell ⟨B, 1, none⟩ (.int .i64 (e : Int))) B T { r with pos := e } := Blk.set h 1 _
theorem Rdr.setLeast {w : World} {B : Nat} {T : ByteArray} {r : RS} (h : Rdr w B T r) (e : Nat) : Rdr (w.setCell ⟨B, 2, none⟩ (.int .u64 (e : Int))) B T { r with least := e } := Blk.set h 2 _
theorem Rdr.setText {w : World} {B : Nat} {T : ByteArray} {r : RS} (h : Rdr w B T r) (t : ByteArray) : Rdr (w.setCell ⟨B, 0, none⟩ (.string t)) B t r := Blk.set h 0 _

set_option maxHeartbeats 1000000 in
set_option maxRecDepth 100000 in
theorem rfail_any (B : Nat) (T : ByteArray) (r : RS) (e : Nat) (w : World) (h : Rdr w B T r) :
    Calls Try.prog 48 #[.pointer (some ⟨B, 0, none⟩), .int .i64 (e : Int)] w fun v w' => v = .returned (.tuple #[]) ∧ Rdr w' B T (failS r e) ∧ But B w w' := by
  have c3 : w.cell? ⟨B, 3, none⟩ = some (.int .i64 (r.er : Int)) := (Blk.cell h 3).trans rfl
  have f3 := Blk.frozen h 3
  unfold failS
  by_cases h0 : r.er = 0
  · have e0 : ((r.er : Int) == 0) = true := by rw [h0]; rfl
    rw [if_pos h0]
    have H := hide (h.setEr e)
    clear h h0
    generalize (r.er : Int) = n at c3 e0
    go_enter Try.func48, Try.ntmps48
    go_wp2
    go_end0
    exact ⟨rfl, unhide H, But.set _ _ _ _⟩
  · have e0 : ((r.er : Int) == 0) = false := by rw [beq_eq_false_iff_ne]; omega
    rw [if_neg h0]
    have H := hide h
    clear h h0
    generalize (r.er : Int) = n at c3 e0
    go_enter Try.func48, Try.ntmps48
    go_wp2
    go_end0
    exact ⟨rfl, unhide H, But.refl _ _⟩

set_option maxHeartbeats 1000000 in
set_option maxRecDepth 100000 in
theorem rtake_any (B : Nat) (T : ByteArray) (r : RS) (b : Nat) (w : World) (h : Rdr w B T r) (hb : b < 18446744073709551616) (hl : r.least ≤ 4294967296) :
    Calls Try.prog 55 #[.pointer (some ⟨B, 0, none⟩), .int .u64 (b : Int)] w fun v w' => v = .returned (.int .u32 ((takeS r b).1 : Int)) ∧ Rdr w' B T (takeS r b).2 ∧ But B w w' := by
  have c2 : w.cell? ⟨B, 2, none⟩ = some (.int .u64 (r.least : Int)) := (Blk.cell h 2).trans rfl
  have f2 := Blk.frozen h 2
  have HF := hide (rfail_any B T r 7 w h)
  unfold takeS
  by_cases h1 : 4294967295 < b
  · have h1' : (4294967295 : Int) < (b : Int) := by omega
    rw [if_pos (.inl h1)]
    clear h h1
    go_enter Try.func55, Try.ntmps55
    go_wp2_with fail
    refine (unhide HF).mono ?_
    rintro v w1 ⟨rfl, h1, h2⟩
    have H1 := hide h1
    clear h1 HF
    go_wp2
    go_ret
    exact ⟨rfl, unhide H1, h2⟩
  · have h1' : ¬ (4294967295 : Int) < (b : Int) := by omega
    by_cases h2 : 4294967295 < r.least + b
    · have h2' : (4294967295 : Int) < (r.least : Int) + (b : Int) := by omega
      rw [if_pos (.inr h2)]
      have hz : (r.least : Int) ≤ 4294967296 := by omega
      have hz2 : (b : Int) ≤ 4294967295 := by omega
      clear h h1 h2
      generalize r.least = L at c2 hl h2' hz
      go_enter Try.func55, Try.ntmps55
      go_wp2_with fail
      refine (unhide HF).mono ?_
      rintro v w1 ⟨rfl, h1, h2⟩
      have H1 := hide h1
      clear h1 HF
      go_wp2
      go_ret
      exact ⟨rfl, unhide H1, h2⟩
    · have h2' : ¬ (4294967295 : Int) < (r.least : Int) + (b : Int) := by omega
      rw [if_neg (by omega)]
      have H := hide (h.setLeast (r.least + b + 1))
      have hz : (r.least : Int) ≤ 4294967295 := by omega
      have hz2 : (b : Int) ≤ 4294967295 := by omega
      clear h h1 HF
      have hsum : ((r.least + b + 1 : Nat) : Int) = (r.least : Int) + (b : Int) + 1 := by omega
      rw [hsum] at H
      have hs2 : ((r.least + b : Nat) : Int) = (r.least : Int) + (b : Int) := by omega
      simp only [hs2]
      clear hsum hs2
      generalize hL : (r.least : Int) = L at *
      have hL0 : 0 ≤ L := by omega
      clear hL
      go_enter Try.func55, Try.ntmps55
      go_wp2
      go_ret
      exact ⟨rfl, unhide H, But.set _ _ _ _⟩

theorem scan_part (s : ByteArray) (p : Nat) : scanL (s.extract p (min s.size (p + 10))).data.toList = scanL (s.data.toList.drop p) := by
  rw [toList_part, ← scanL_take (s.data.toList.drop p)]
  by_cases h : p + 10 ≤ s.size
  · rw [Nat.min_eq_right h, show p + 10 - p = 10 by omega]
  · rw [Nat.min_eq_left (by omega), List.take_of_length_le (by rw [List.length_drop, sizeL]; omega), List.take_of_length_le (by rw [List.length_drop, sizeL]; omega)]

set_option maxHeartbeats 600000 in
set_option maxRecDepth 100000 in
theorem rnumber_any (B : Nat) (T : ByteArray) (r : RS) (w : World) (h : Rdr w B T r) (hp : r.pos ≤ T.size) (hT : T.size ≤ 140737488355328) :
    Calls Try.prog 47 #[.pointer (some ⟨B, 0, none⟩)] w fun v w' => v = .returned (.int .u64 ((numS T.data.toList r).1 : Int)) ∧ Rdr w' B T (numS T.data.toList r).2 ∧ But B w w' := by
  have c3 : w.cell? ⟨B, 3, none⟩ = some (.int .i64 (r.er : Int)) := (Blk.cell h 3).trans rfl
  have c0 : w.cell? ⟨B, 0, none⟩ = some (.string T) := (Blk.cell h 0).trans rfl
  have c1 : w.cell? ⟨B, 1, none⟩ = some (.int .i64 (r.pos : Int)) := (Blk.cell h 1).trans rfl
  unfold numS
  by_cases h0 : r.er = 0
  · have e0 : ((r.er : Int) != 0) = false := by rw [h0]; rfl
    rw [if_pos h0]
    have hg := fun W => get_any (T.extract r.pos (min T.size (r.pos + 10))) W (by rw [size_part _ _ _ (by omega)]; omega)
    rw [scan_part] at hg
    generalize restOf (T.extract r.pos (min T.size (r.pos + 10))) = R at hg
    have hsl := slice_km T r.pos (min T.size (r.pos + 10) - r.pos) (by omega)
    rw [show r.pos + (min T.size (r.pos + 10) - r.pos) = min T.size (r.pos + 10) by omega, show (r.pos : Int) + ((min T.size (r.pos + 10) - r.pos : Nat) : Int) = ((min T.size (r.pos + 10) : Nat) : Int) by omega] at hsl
    obtain ⟨p10, hp10⟩ : ∃ p10, p10 = r.pos + 10 := ⟨_, rfl⟩
    rw [← hp10] at hg hsl
    obtain ⟨q, hq⟩ : ∃ q, q = min T.size p10 := ⟨_, rfl⟩
    rw [← hq] at hg hsl
    have v1 : IntKind.i64.wrap ((r.pos : Int) + 10) = (p10 : Int) := by rw [IntKind.wrap_i64]; omega
    have v2 : min (T.size : Int) (p10 : Int) = (q : Int) := by omega
    generalize T.extract r.pos q = piece at hg hsl
    have HG := hide hg
    have HR := hide h
    have HER := hide h0
    clear hg h hp10 hq h0
    by_cases hs : (scanL (T.data.toList.drop r.pos)).2.2 = 0
    · rw [if_pos hs]
      rw [hs] at HG
      have hk := scanL_ok (s := T.data.toList.drop r.pos) (m := (scanL (T.data.toList.drop r.pos)).1) (k := (scanL (T.data.toList.drop r.pos)).2.1) (by rw [← hs])
      have hin := scanL_in _ hs
      rw [List.length_drop, sizeL] at hin
      generalize (scanL (T.data.toList.drop r.pos)).1 = m at HG hk ⊢
      generalize (scanL (T.data.toList.drop r.pos)).2.1 = k at hk hin ⊢
      obtain ⟨_, hk2, hk3, hk4⟩ := hk
      have HSZ := hide (fun W => size_any m W hk3)
      rw [← hk2] at HSZ
      obtain ⟨P, hP⟩ : ∃ P : Nat, r.pos = P := ⟨_, rfl⟩
      have hPp : P ≤ T.size := by omega
      have hPk : P + k ≤ T.size := by omega
      rw [hP] at c1 hsl v1 ⊢
      generalize (r.er : Int) = ern at c3 e0
      have v3 : IntKind.i64.wrap ((P : Int) + (k : Int)) = ((P + k : Nat) : Int) := by rw [IntKind.wrap_i64]; omega
      clear hp hk2 hs hin
      go_enter Try.func47, Try.ntmps47
      go_wp2
      have HX : Hid (∀ W, Below w.heap.size w W → W.cell? ⟨B, 0, none⟩ = some (.string T) ∧ W.cell? ⟨B, 1, none⟩ = some (.int .i64 (P : Int))) := hide (fun W hb => ⟨((unhide HR).below hb).cell 0 |>.trans rfl, (((unhide HR).below hb).cell 1).trans (by rw [hP]; rfl)⟩)
      have HD : Hid (Below w.heap.size w w.drew) := hide ⟨rfl, rfl, rfl, Nat.le_refl _, fun _ _ => rfl⟩
      clear hP
      go_region_held3 (fun w' => w'.cell? ⟨B, 0, none⟩ = some (.string T) ∧ w'.cell? ⟨B, 1, none⟩ = some (.int .i64 (P : Int))) (first | exact unhide HX _ bA | exact unhide HX _ (unhide HD)) (first | (go_at_call 28; refine (unhide HG _).mono ?_; rintro e w2 ⟨rfl, b2⟩; have bA : Below w.heap.size w w2 := belows' (unhide HD) b2))
      all_goals
        have HR2 := hide ((unhide HR).below bA)
        have HB2 := hide bA
        have d1 : w2.cell? ⟨B, 1, none⟩ = some (.int .i64 (P : Int)) := (unhide HX _ bA).2
        have f1 := Blk.frozen (unhide HR2) 1
        clear bA b2 HX HD HG
        go_simp
        go_wp2
        have hPi : (P : Int) + (k : Int) ≤ 9223372036854775807 := by omega
        have d1' : w2.drew.cell? ⟨B, 1, none⟩ = some (.int .i64 (P : Int)) := d1
        have f1' : w2.drew.frozen? ⟨B, 1, none⟩ = false := f1
        go_region_with (go_at_call 54; refine (unhide HSZ _).mono ?_; rintro e w3 ⟨rfl, h3⟩; subst h3)
        all_goals
          have H4 := hide (unhide HR2)
          have HB4 := hide (But.of_below (B := B) (unhide HB2))
          clear HR2 HB2 d1 f1 d1' f1' HSZ c0 c1 c3 hsl v1 v2 v3
          go_simp
          go_wp2
          go_ret
          rw [show (P : Int) + (k : Int) = ((P + k : Nat) : Int) by omega]
          exact ⟨rfl, Rdr.setPos (r := r) (unhide H4) (P + k), by first | exact ((unhide HB4).trans (But.set _ _ _ _)).drew | exact (unhide HB4).trans (But.set _ _ _ _)⟩
    · rw [if_neg hs]
      have e1 : (((scanL (T.data.toList.drop r.pos)).2.2 : Int) != 0) = true := by rw [bne_iff_ne]; omega
      generalize (scanL (T.data.toList.drop r.pos)).1 = m at HG
      generalize hen : (scanL (T.data.toList.drop r.pos)).2.2 = en at HG e1 ⊢
      have HFL := hide (fun W (hW : Rdr W B T r) => rfail_any B T r en W hW)
      clear hs hen
      obtain ⟨P, hP⟩ : ∃ P : Nat, r.pos = P := ⟨_, rfl⟩
      rw [hP] at c1 hsl v1
      generalize (r.er : Int) = ern at c3 e0
      clear hp
      go_enter Try.func47, Try.ntmps47
      go_wp2
      have HX : Hid (∀ W, Below w.heap.size w W → W.cell? ⟨B, 0, none⟩ = some (.string T) ∧ W.cell? ⟨B, 1, none⟩ = some (.int .i64 (P : Int))) := hide (fun W hb => ⟨((unhide HR).below hb).cell 0 |>.trans rfl, (((unhide HR).below hb).cell 1).trans (by rw [hP]; rfl)⟩)
      have HD : Hid (Below w.heap.size w w.drew) := hide ⟨rfl, rfl, rfl, Nat.le_refl _, fun _ _ => rfl⟩
      clear hP
      go_region_held3 (fun w' => w'.cell? ⟨B, 0, none⟩ = some (.string T) ∧ w'.cell? ⟨B, 1, none⟩ = some (.int .i64 (P : Int))) (first | exact unhide HX _ bA | exact unhide HX _ (unhide HD)) (first | (go_at_call 28; refine (unhide HG _).mono ?_; rintro e w2 ⟨rfl, b2⟩; have bA : Below w.heap.size w w2 := belows' (unhide HD) b2))
      all_goals
        have HR2 := hide ((unhide HR).below bA)
        have HB2 := hide bA
        clear bA b2 HX HD HG
        go_simp
        go_wp2_with fail
        refine (unhide HFL _ (unhide HR2)).mono ?_
        rintro v w3 ⟨rfl, h3, b3⟩
        have H3 := hide h3
        have HB3 := hide ((But.of_below (unhide HB2)).trans b3)
        clear h3 b3 HFL
        go_wp2
        go_ret
        exact ⟨rfl, by have := unhide H3; unfold failS at this; rw [if_pos (unhide HER)] at this; exact this, unhide HB3⟩
  · have e0 : ((r.er : Int) != 0) = true := by rw [bne_iff_ne]; omega
    rw [if_neg h0]
    have H := hide h
    clear h h0 hp
    generalize (r.er : Int) = n at c3 e0
    go_enter Try.func47, Try.ntmps47
    go_wp2
    go_ret
    exact ⟨rfl, unhide H, But.refl _ _⟩
end Go.Proofs.Ytfjjigcghhohkaa
