/-
  What missivetop.letters does, over this seat's program: whether two lists are one.
-/
import Derived.Test.YtdallfakfhajdaaGreatDoorRsm
import Derived.Test.YtdallfakfhajdaaGreatDoorDda
import Derived.Shelf.SlSorted.Search
import Derived.Test.YtdallfakfhajdaaGreatDoorHlk
import Derived.Test.YtdallfakfhajdaaGreatDoorCts
import Derived.Shelf.Strings.SlTrimAscii
import Derived.Test.YtdallfakfhajdaaGreatDoorWrb
set_option linter.unusedVariables false
namespace Go.Proofs.YtdallfakfhajdaaGreatDoor
open Go.RowKit Go.Proofs.Rns

set_option maxHeartbeats 1000000 in
set_option maxRecDepth 100000 in
/-- missivetop.letters tells whether the two lists of letters are one. -/
theorem letters_top (v v' : Value) (l r : List Int) (w : World) (h : RowI w v l) (h' : RowI w v' r) (hl : l.length ≤ 9223372036854775807) :
    Calls Tryz.prog 26 #[v, v'] w fun e w' => e = .returned (.bool (decide (l = r))) ∧ Below w.heap.size w w' := by
  obtain ⟨a, cap, rfl, hn, hc⟩ := h
  obtain ⟨a', cap', rfl, hn', hc'⟩ := h'
  have HC := hide hc
  have HC' := hide hc'
  clear hc hc' hn hn'
  by_cases hlr : l.length = r.length
  · have hbe : ((l.length : Int) != (r.length : Int)) = false := by simp [hlr]
    have HLR := hide hlr
    clear hlr
    go_enter Tryz.func26, Tryz.ntmps26
    go_wp2
    go_loopw [5, 13] (fun x z wr => ∃ k : Nat, z = .int .i64 k ∧ k ≤ l.length ∧ Hid (l.take k = r.take k) ∧ Below w.heap.size w wr) (fun _ z _ => l.length - (intOf z).toNat)
    case atStart => exact ⟨0, rfl, Nat.zero_le _, hide rfl, Below.refl _ _⟩
    case round =>
      obtain ⟨k, rfl, hk, HT, hbw⟩ := hrel
      by_cases hlt : k < l.length
      · have hlt' : k < r.length := by have := unhide HLR; omega
        have hx : ∃ b off, a = some ⟨b, off, none⟩ ∧ wr.cell? ⟨b, off + k, none⟩ = some (.int .i32 l[k]) := by
          rcases unhide HC with h | ⟨b, off, ha, hb, hcj⟩
          · subst h; simp at hlt
          · exact ⟨b, off, ha, (hbw.cell (p := ⟨b, off + k, none⟩) hb).trans (hcj k hlt)⟩
        have hy : ∃ b off, a' = some ⟨b, off, none⟩ ∧ wr.cell? ⟨b, off + k, none⟩ = some (.int .i32 r[k]) := by
          rcases unhide HC' with h | ⟨b, off, ha, hb, hcj⟩
          · subst h; simp at hlt'
          · exact ⟨b, off, ha, (hbw.cell (p := ⟨b, off + k, none⟩) hb).trans (hcj k hlt')⟩
        obtain ⟨b, off, rfl, hcx⟩ := hx
        obtain ⟨b', off', rfl, hcy⟩ := hy
        have hlt1 : (k : Int) < (l.length : Int) := by omega
        have hlt2 : (k : Int) < (r.length : Int) := by omega
        by_cases he : l[k] = r[k]
        · have hbq : (l[k] != r[k]) = false := by simp [he]
          have HN := hide ((takeI_next hlt hlt').2 ⟨unhide HT, he⟩)
          clear he HT
          generalize l[k] = x at hcx hbq
          generalize r[k] = y at hcy hbq
          go_wp2
          go_quiet (fail)
          go_wp2
          exact ⟨⟨k + 1, by go_num, by omega, HN, (by first | exact hbw | exact ⟨hbw.os, hbw.tape, hbw.output, hbw.size, hbw.block⟩)⟩, by simp [intOf]; omega⟩
        · have hbq : (l[k] != r[k]) = true := by simp [he]
          have hfin : decide (l = r) = false := by
            rw [decide_eq_false_iff_not]
            intro h
            subst h
            exact he rfl
          have HF := hide hfin
          clear hfin he
          generalize l[k] = x at hcx hbq
          generalize r[k] = y at hcy hbq
          go_wp2
          go_quiet (fail)
          go_wp2
          go_ret
          exact ⟨by rw [unhide HF]; rfl, (by first | exact hbw | exact ⟨hbw.os, hbw.tape, hbw.output, hbw.size, hbw.block⟩)⟩
      · have hfin : decide (l = r) = true := by
          rw [decide_eq_true_iff]
          have h1 := unhide HT
          have h2 := unhide HLR
          rw [List.take_of_length_le (by omega), List.take_of_length_le (by omega)] at h1
          exact h1
        have HF := hide hfin
        clear hfin
        go_wp2
        go_ret
        exact ⟨by rw [unhide HF]; rfl, hbw⟩
  · have hbe : ((l.length : Int) != (r.length : Int)) = true := by simp; omega
    have hfin : decide (l = r) = false := by
      rw [decide_eq_false_iff_not]
      intro h
      exact hlr (by rw [h])
    have HF := hide hfin
    clear hfin hlr
    go_enter Tryz.func26, Tryz.ntmps26
    go_wp2
    go_ret
    exact ⟨by rw [unhide HF]; rfl, Below.refl _ _⟩
end Go.Proofs.YtdallfakfhajdaaGreatDoor

/-
  What date.Day and the document's Day do, over this seat's program.
-/
set_option linter.unusedVariables false
namespace Go.Proofs.YtdallfakfhajdaaGreatDoor
open Go.RowKit Go.Proofs.Dcl

/-- What Day tells. -/
def dayV (y m d : Int) : Value := if vldB y m d then .tuple #[.int .i64 (num y m d), .int .i64 0] else .tuple #[.int .i64 0, .int .i64 1]
theorem dayV_t {y m d : Int} (h : vldB y m d = true) : dayV y m d = .tuple #[.int .i64 (num y m d), .int .i64 0] := by simp [dayV, h]
theorem dayV_f {y m d : Int} (h : vldB y m d = false) : dayV y m d = .tuple #[.int .i64 0, .int .i64 1] := by simp [dayV, h]

theorem ret_two {a b : Int} {k : IntKind} {v : Value} (h : a = b) : Ending.returned (.tuple #[.int k a, v]) = .returned (.tuple #[.int k b, v]) := by rw [h]


set_option maxHeartbeats 4000000 in
theorem day_any (y m d : Int) (w : World) (ht : LTab w) :
    Calls Tryz.prog 64 #[.int .i64 y, .int .i64 m, .int .i64 d] w fun e w' => e = .returned (dayV y m d) ∧ w' = w := by
  cases hv : vldB y m d
  · rw [dayV_f hv]
    have hn := vld_not.1 hv
    clear hv
    by_cases a1 : y < 1
    · go_enter Tryz.func64, Tryz.ntmps64
      go_wp2
      go_ret2
      exact ⟨rfl, rfl⟩
    by_cases a2 : 9999 < y
    · go_enter Tryz.func64, Tryz.ntmps64
      go_wp2
      go_ret2
      exact ⟨rfl, rfl⟩
    by_cases a3 : m < 1
    · go_enter Tryz.func64, Tryz.ntmps64
      go_wp2
      go_ret2
      exact ⟨rfl, rfl⟩
    by_cases a4 : 12 < m
    · go_enter Tryz.func64, Tryz.ntmps64
      go_wp2
      go_ret2
      exact ⟨rfl, rfl⟩
    by_cases a5 : d < 1
    · go_enter Tryz.func64, Tryz.ntmps64
      go_wp2
      go_ret2
      exact ⟨rfl, rfl⟩
    have a6 : dim y m < d := by omega
    have HL := length_any y m w ht (by omega) (by omega) (by omega) (by omega)
    clear hn ht
    go_enter Tryz.func64, Tryz.ntmps64
    go_wp2_with (go_at_call 111; refine HL.mono ?_; rintro e w' ⟨rfl, rfl⟩)
    go_ret2
    exact ⟨rfl, rfl⟩
  · rw [dayV_t hv]
    obtain ⟨h1, h2, h3, h4, h5, h6⟩ := vld_iff.1 hv
    have HL := length_any y m w ht (by omega) (by omega) h3 h4
    have HF := firstDay_any y w h1 (by omega)
    have hb := ahd_bd y h1 (by omega)
    have hd := dim_bd y m
    clear hv
    go_enter Tryz.func64, Tryz.ntmps64
    go_wp2_with (first | (go_at_call 111; refine HL.mono ?_; rintro e w' ⟨rfl, rfl⟩) | (go_at_call 112; refine HF.mono ?_; rintro e w' ⟨rfl, rfl⟩))
    clear HL HF
    go_loop [8, 9] (fun n k => ∃ j : Int, 1 ≤ j ∧ j ≤ m ∧ k = .int .i64 j ∧ n = .int .i64 (-719162 + ahd y + d - 1 + cum y j)) (fun _ k => (m - intOf k).toNat)
    case atStart => exact ⟨1, by omega, by omega, rfl, by rw [cum_one]; simp⟩
    case round =>
      obtain ⟨j, j1, j2, rfl, rfl⟩ := hrel
      have cb := cum_bd y j j1 (by omega)
      by_cases hj : j < m
      · have cs := cum_succ y j j1 (by omega)
        have db := dim_bd y j
        have HL := length_any y j _ ht (by omega) (by omega) (by omega) (by omega)
        go_wp2_with (go_at_call 111; refine HL.mono ?_; rintro e w' ⟨rfl, rfl⟩)
        go_round
        case rel => exact ⟨j + 1, by omega, by omega, rfl, by rw [cs]; go_num⟩
        case measure => simp [intOf]; omega
      · obtain rfl : j = m := by omega
        go_wp2
        go_ret2
        exact ⟨ret_two (by unfold num; omega), rfl⟩

end Go.Proofs.YtdallfakfhajdaaGreatDoor

/-
  What the document's Civil does, over this seat's program.
-/
set_option linter.unusedVariables false
namespace Go.Proofs.YtdallfakfhajdaaGreatDoor
open Go.RowKit Go.Proofs.Dcl

theorem hid {p : Prop} (h : p) : Hid p := h
theorem unhid {p : Prop} (h : Hid p) : p := h

theorem results_tmp4 {fn : Func} {t u v x : Tmp} (h : fn.results = #[.tmp t, .tmp u, .tmp v, .tmp x]) (tmps : Array Value) (P : Program) (w : World) :
    (results fn tmps).run P w = .ok (.tuple #[tmps.getD t undef, tmps.getD u undef, tmps.getD v undef, tmps.getD x undef]) w := by
  simp [results, h]

/-- A step of the search for a year, and how far the year may lie. -/
def Step (S Q : Int) : Prop := (S = 0 ∧ Q = 1) ∨ (∃ j : Nat, j ≤ 13 ∧ S = (2 ^ j : Nat) ∧ Q = (2 ^ (j + 1) : Nat))
theorem step_half {S Q : Int} (h : Step S Q) (h0 : 0 < S) : Step (S / 2) S ∧ Q = 2 * S ∧ S ≤ 8192 := by
  rcases h with ⟨rfl, _⟩ | ⟨j, hj, rfl, rfl⟩
  · omega
  · have hle : (2 : Nat) ^ j ≤ 2 ^ 13 := Nat.pow_le_pow_right (by omega) hj
    have h13 : (2 : Nat) ^ 13 = 8192 := by decide
    refine ⟨?_, ?_, by omega⟩
    · cases j with
      | zero => left; simp
      | succ i =>
        right
        refine ⟨i, by omega, ?_, rfl⟩
        rw [Nat.pow_succ]; omega
    · rw [Nat.pow_succ]; omega
theorem step_first : Step 8192 16384 := Or.inr ⟨13, by omega, by decide, by decide⟩
theorem step_end {S Q : Int} (h : Step S Q) (h0 : ¬ 0 < S) : Q = 1 := by
  rcases h with ⟨_, h⟩ | ⟨j, hj, rfl, _⟩
  · exact h
  · have : 0 < (2 : Nat) ^ j := Nat.pow_pos (by omega)
    omega

theorem num_of (n y k : Int) : num y k (n + 719162 - ahd y - cum y k + 1) = n := by unfold num; omega
theorem vld_of (n y k : Int) (a : 1 ≤ y) (b : y ≤ 9999) (k1 : 1 ≤ k) (k2 : k ≤ 12) (c : 0 ≤ n + 719162 - ahd y - cum y k) (d : n + 719162 - ahd y - cum y k < dim y k) : vldB y k (n + 719162 - ahd y - cum y k + 1) = true :=
  vld_iff.2 ⟨a, b, k1, k2, by omega, by omega⟩

/-- What Civil tells of a number: its day. -/
def CivIs (n : Int) (v : Value) : Prop := (dayB n = false ∧ v = .tuple #[.int .i64 0, .int .i64 0, .int .i64 0, .int .i64 1]) ∨ (dayB n = true ∧ ∃ y m d : Int, vldB y m d = true ∧ num y m d = n ∧ v = .tuple #[.int .i64 y, .int .i64 m, .int .i64 d, .int .i64 0])
theorem CivIs.no {n : Int} {v : Value} (h : CivIs n v) (hd : dayB n = false) : v = .tuple #[.int .i64 0, .int .i64 0, .int .i64 0, .int .i64 1] := by
  rcases h with ⟨_, h⟩ | ⟨h, _⟩
  · exact h
  · rw [hd] at h; cases h
theorem CivIs.yes {n : Int} {v : Value} (h : CivIs n v) (hd : dayB n = true) : ∃ y m d : Int, vldB y m d = true ∧ num y m d = n ∧ v = .tuple #[.int .i64 y, .int .i64 m, .int .i64 d, .int .i64 0] := by
  rcases h with ⟨h, _⟩ | ⟨_, h⟩
  · rw [hd] at h; cases h
  · exact h

theorem day_of_vld {y m d : Int} (h : vldB y m d = true) : dayB (num y m d) = true := by
  have := num_bd h
  simp [dayB]; omega

theorem bound_after {n Y Q : Int} (hn : n ≤ 2932896) (hY : Y ≤ 9999) (hq : Q = 1) (h : Y + Q ≤ 9999 → n < -719162 + ahd (Y + Q)) : n < -719162 + ahd (Y + 1) := by
  subst hq
  by_cases e : Y = 9999
  · subst e
    have := ahd_max
    show n < -719162 + ahd 10000
    omega
  · exact h (by omega)

end Go.Proofs.YtdallfakfhajdaaGreatDoor

/-
  What date.Civil does, over this seat's program: sort.Search by the library's contract.
-/
set_option linter.unusedVariables false
namespace Go.Proofs
def Tryz.search_ren : Go.Shelf.Ren := ⟨fun | 16 => 129 | n => n, fun | 3 => 3 | 4 => 4 | 35 => 79 | 38 => 111 | n => n, fun | n => n⟩
theorem Tryz.search_lays : Go.Proofs.SlLaysO.n16 Tryz.prog Tryz.search_ren := {
  mixed := by kernel_rfl
  f16 := Tryz.func129.trans (congrArg some (by kernel_rfl))
  t3 := Tryz.underlying3
  a3 := Tryz.isAgg3
  z3 := Tryz.sizeOf3
  v3 := Tryz.zeroValue3
  t4 := Tryz.underlying4
  a4 := Tryz.isAgg4
  z4 := Tryz.sizeOf4
  v4 := Tryz.zeroValue4
  t35 := Tryz.underlying79
  a35 := Tryz.isAgg79
  z35 := Tryz.sizeOf79
  v35 := Tryz.zeroValue79
  t38 := Tryz.underlying111
  a38 := Tryz.isAgg111
  z38 := Tryz.sizeOf111
  v38 := Tryz.zeroValue111 }
end Go.Proofs
namespace Go.Proofs.YtdallfakfhajdaaGreatDoor
open Go.RowKit Go.Proofs.Dcl Go.Shelf Go.Lib Go.Sort

/-- Whether a year behind is one too many. -/
def tooB (n : Int) (i : Nat) : Bool := decide (n < -719162 + ahd (i + 2))

theorem too_mono (n : Int) (a b : Nat) (h : a ≤ b) (ha : tooB n a = true) : tooB n b = true := by
  unfold tooB at *
  have := of_decide_eq_true ha
  have := ahd_mono ((a : Int) + 2) ((b : Int) + 2) (by omega)
  exact decide_eq_true (by omega)

theorem count_mono (n : Nat) (p : Nat → Bool) (hm : ∀ a b, a ≤ b → b < n → p a = true → p b = true) :
    (List.range n).countP (fun i => !p i) ≤ n ∧ ∀ i, i < n → (p i = true ↔ (List.range n).countP (fun i => !p i) ≤ i) := by
  induction n with
  | zero => exact ⟨by simp, fun i hi => by omega⟩
  | succ n ih =>
    obtain ⟨h1, h2⟩ := ih (fun a b hab hb => hm a b hab (by omega))
    rw [List.range_succ, List.countP_append]
    cases hp : p n
    · have hall : ∀ i, i < n → p i = false := by
        intro i hi
        cases hpi : p i
        · rfl
        · rw [hm i n (by omega) (by omega) hpi] at hp; cases hp
      have hc : (List.range n).countP (fun i => !p i) = n := by
        rw [List.countP_eq_length.2 (fun a ha => by rw [hall a (by simpa using ha)]; rfl)]
        simp
      have h1 : List.countP (fun i => !p i) [n] = 1 := by simp [hp]
      rw [hc, h1]
      refine ⟨by omega, fun i hi => ?_⟩
      by_cases e : i = n
      · subst e; rw [hp]; simp
      · rw [hall i (by omega)]; constructor
        · intro h; cases h
        · intro h; omega
    · have h0 : List.countP (fun i => !p i) [n] = 0 := by simp [hp]
      rw [h0, Nat.add_zero]
      refine ⟨by omega, fun i hi => ?_⟩
      by_cases e : i = n
      · subst e; rw [hp]; simp; exact h1
      · exact h2 i (by omega)

/-- The year that is found. -/
theorem year_of (n : Int) (a : -719162 ≤ n) (b : n ≤ 2932896) :
    ∃ c : Nat, (List.range 9998).countP (fun i => !tooB n i) = c ∧ c ≤ 9998 ∧ -719162 + ahd (1 + c) ≤ n ∧ n < -719162 + ahd (1 + c + 1) := by
  obtain ⟨h1, h2⟩ := count_mono 9998 (tooB n) (fun a b hab _ h => too_mono n a b hab h)
  refine ⟨_, rfl, h1, ?_, ?_⟩
  · generalize (List.range 9998).countP (fun i => !tooB n i) = c at h1 h2
    cases c with
    | zero => have := ahd_one; simp; omega
    | succ k =>
      have h : ¬ tooB n k = true := fun h => by have := (h2 k (by omega)).1 h; omega
      unfold tooB at h
      rw [decide_eq_true_eq] at h
      rw [show (1 : Int) + ((k + 1 : Nat) : Int) = (k : Int) + 2 by omega]
      omega
  · generalize (List.range 9998).countP (fun i => !tooB n i) = c at h1 h2
    by_cases e : c = 9998
    · subst e
      have := ahd_max
      show n < -719162 + ahd 10000
      omega
    · have h := (h2 c (by omega)).2 (Nat.le_refl _)
      unfold tooB at h
      rw [decide_eq_true_eq] at h
      rw [show (1 : Int) + (c : Int) + 1 = (c : Int) + 2 by omega]
      exact h

set_option maxHeartbeats 1000000 in
theorem closure_any (n : Int) (i : Nat) (B : Nat) (w : World) (hi : i < 9998) (hc : w.cell? ⟨B, 0, none⟩ = some (.int .i64 n)) :
    Calls Tryz.prog 130 #[.int .i64 i, .pointer (some ⟨B, 0, none⟩)] w fun e w' => e = .returned (.bool (tooB n i)) ∧ ∃ q, w' = w.drewN q := by
  have HF := fun W => firstDay_any ((i : Int) + 2) W (by omega) (by omega)
  have hb := ahd_bd ((i : Int) + 2) (by omega) (by omega)
  go_enter Tryz.func130, Tryz.ntmps130
  go_wp2
  go_quiet ((go_at_call 112; exact Calls.quiet_of_same (HF _)))
  go_wp2
  go_ret
  exact ⟨rfl, nq, rfl⟩

theorem drewB {B : Nat} {a w : World} (h : Below B a w) (n : Nat) : Below B a (w.drewN n) := ⟨h.os, h.tape, h.output, h.size, h.block⟩
theorem grow_empty (w : World) : grow w #[] = w := by cases w; simp [grow]

theorem enter33 : ∀ args w, (callFunc 130 args).run Tryz.prog w = .ok (.enter 130 args) w := by
  intro args w
  go_simp

set_option maxHeartbeats 4000000 in
theorem civil_any (n : Int) (w : World) (ht : LTab w) :
    Calls Tryz.prog 91 #[.int .i64 n] w fun e w' => ∃ v, e = .returned v ∧ CivIs n v ∧ Below w.heap.size w w' := by
  have HI := fun W => isDay_any n W
  cases hd : dayB n
  · have hv : CivIs n (.tuple #[.int .i64 0, .int .i64 0, .int .i64 0, .int .i64 1]) := .inl ⟨hd, rfl⟩
    rw [hd] at HI
    clear hd ht
    go_enter Tryz.func91, Tryz.ntmps91
    go_wp2_with (go_at_call 49; refine (HI _).mono ?_; rintro e w' ⟨rfl, rfl⟩)
    (try simp only [Exit.inBlock, Exit.then])
    refine bodyPost_ret (results_tmp4 rfl _ _ _) rfl ?_
    exact ⟨_, rfl, hv, (Below.refl _ _).alloc (Nat.le_refl _) _⟩
  · obtain ⟨a, b⟩ := dayB_t hd
    rw [hd] at HI
    have hv : Hid (∀ y m d : Int, vldB y m d = true → num y m d = n → CivIs n (.tuple #[.int .i64 y, .int .i64 m, .int .i64 d, .int .i64 0])) := fun y m d h1 h2 => .inr ⟨hd, y, m, d, h1, h2, rfl⟩
    clear hd
    obtain ⟨c, hc, c1, hlo, hup⟩ := year_of n a b
    obtain ⟨Y, hY⟩ : ∃ Y : Int, Y = 1 + (c : Int) := ⟨_, rfl⟩
    rw [← hY] at hlo hup
    have y1 : 1 ≤ Y := by omega
    have y2 : Y ≤ 9999 := by omega
    have HS := hid (Go.Proofs.Any.sort_Search Tryz.search_lays 130 #[.pointer (some ⟨w.heap.size, 0, none⟩)] 9998 (tooB n) (w.alloc (.cells #[.int .i64 n] 3)) enter33 (by omega)
      (fun m os i hi => (closure_any n i w.heap.size _ hi (cell_grown (by simp) (cell_new_sl w _ _) m os)).mono (fun e w' ⟨h1, q, h2⟩ => ⟨h1, q, #[], by rw [h2, grow_empty]⟩))
      (fun a b hab _ h => too_mono n a b hab h))
    rw [hc] at HS
    have HY := hid hY
    have hbd := ahd_bd Y (by omega) (by omega)
    have hsu := ahd_succ Y
    have hl := lp_01 Y
    have HF := fun W => firstDay_any Y W (by omega) (by omega)
    clear hY hc
    have HT := hid ht
    clear ht
    go_enter Tryz.func91, Tryz.ntmps91
    go_wp2_with (go_at_call 49; refine (HI _).mono ?_; rintro e w' ⟨rfl, rfl⟩)
    refine (unhid HS).mono ?_
    rintro e w1 ⟨rfl, q, os, rfl⟩
    have hb : Below w.heap.size w (grow ((w.alloc (.cells #[.int .i64 n] 3)).drewN q) os) :=
      ((Below.refl _ w).alloc (Nat.le_refl _) _).trans (below_grown_sl w.heap.size _ q os (by simp))
    have hcell : (grow ((w.alloc (.cells #[.int .i64 n] 3)).drewN q) os).cell? ⟨w.heap.size, 0, none⟩ = some (.int .i64 n) := cell_grown (by simp) (cell_new_sl w _ _) q os
    have HT1 := hid ((unhid HT).below hb)
    have HB := hid hb
    clear HT hb HS
    generalize grow ((w.alloc (.cells #[.int .i64 n] 3)).drewN q) os = u at hcell HT1 HB ⊢
    go_wp2
    rw [← unhid HY]
    clear HY c1
    go_quiet ((go_at_call 112; exact Calls.quiet_of_same (HF _)))
    have HT2 : LTab (u.drewN nq) := (unhid HT1).below (drewB (Below.refl _ u) nq)
    have HB2 := hid (drewB (unhid HB) nq)
    clear HT1 HB hcell
    generalize u.drewN nq = x at HT2 HB2 ⊢
    go_wp2
    go_loop [7, 8] (fun k r => ∃ m : Int, 1 ≤ m ∧ m ≤ 12 ∧ k = .int .i64 m ∧ 0 ≤ n + 719162 - ahd Y - cum Y m ∧ r = .int .i64 (n + 719162 - ahd Y - cum Y m + 1)) (fun k _ => (12 - intOf k).toNat)
    case atStart => exact ⟨1, by omega, by omega, rfl, by rw [cum_one]; omega, by rw [cum_one]; congr 1; omega⟩
    case round =>
      obtain ⟨m, hm1, hm2, rfl, hr, rfl⟩ := hrel
      have cb := cum_bd Y m hm1 (by omega)
      have db := dim_bd Y m
      have cs := cum_succ Y m hm1 hm2
      have HL := length_any Y m _ HT2 (by omega) (by omega) hm1 hm2
      by_cases hc : dim Y m < n + 719162 - ahd Y - cum Y m + 1
      · have hm : m < 12 := by
          by_cases e : m = 12
          · subst e
            have h13 := cum_13 Y
            have : cum Y (12 + 1) = cum Y 13 := rfl
            omega
          · omega
        go_wp2_with (go_at_call 111; refine HL.mono ?_; rintro e w' ⟨rfl, rfl⟩)
        go_round
        case rel => exact ⟨m + 1, by omega, by omega, rfl, by rw [cs]; omega, by rw [cs]; congr 1; omega⟩
        case measure => simp [intOf]; omega
      · have hvv := (unhid hv) _ _ _ (vld_of n Y m y1 y2 hm1 hm2 hr (by omega)) (num_of n Y m)
        go_wp2_with (go_at_call 111; refine HL.mono ?_; rintro e w' ⟨rfl, rfl⟩)
        (try simp only [Exit.inBlock, Exit.then])
        refine bodyPost_ret (results_tmp4 rfl _ _ _) rfl ?_
        exact ⟨_, rfl, hvv, unhid HB2⟩

end Go.Proofs.YtdallfakfhajdaaGreatDoor

/-
  Texts of dates, as lists of bytes, and what date.number, nameOf, monthOf and the moment's has and take do, over this seat's program.
-/
set_option linter.unusedVariables false
namespace Go.Proofs.YtdallfakfhajdaaGreatDoor
open Go.RowKit Go.Proofs.Dcl

/-- A digit. -/
def digB (c : UInt8) : Bool := decide (48 ≤ c.toNat ∧ c.toNat ≤ 57)
/-- A number of digits alone, behind one. -/
def numA (acc : Nat) : List UInt8 → Option Nat
  | [] => some acc
  | c :: r => if digB c then numA (acc * 10 + (c.toNat - 48)) r else none
/-- A number of so many digits. -/
def numR (l : List UInt8) (least most : Nat) : Option Nat := if l.length < least ∨ most < l.length then none else numA 0 l
/-- The months' names. -/
def nmT : List (List UInt8) := [[74, 97, 110], [70, 101, 98], [77, 97, 114], [65, 112, 114], [77, 97, 121], [74, 117, 110], [74, 117, 108], [65, 117, 103], [83, 101, 112], [79, 99, 116], [78, 111, 118], [68, 101, 99]]
def nmL (k : Nat) : List UInt8 := nmT.getD k []
/-- The month of a name, from one on. -/
def monF (l : List UInt8) : Nat → Nat → Nat
  | 0, _ => 0
  | f + 1, k => if smL l = smL (nmL k) then k + 1 else monF l f (k + 1)
/-- The month of a name; 0: there is none. -/
def monR (l : List UInt8) : Nat := monF l 12 0
theorem monF_le (l : List UInt8) (f k : Nat) : monF l f k ≤ k + f := by
  induction f generalizing k with
  | zero => simp [monF]
  | succ f ih => unfold monF; split
                 · omega
                 · have := ih (k + 1); omega
theorem monR_le (l : List UInt8) : monR l ≤ 12 := by have := monF_le l 12 0; unfold monR; omega

/-- A pair, or nothing, as Go tells it. -/
def optV (o : Option Nat) : Value := match o with
  | some n => .tuple #[.int .i64 (n : Int), .bool true]
  | none => .tuple #[.int .i64 0, .bool false]

theorem numA_bound (l : List UInt8) (acc : Nat) (n : Nat) (h : numA acc l = some n) : n < (acc + 1) * 10 ^ l.length := by
  induction l generalizing acc with
  | nil => simp [numA] at h; subst h; simp
  | cons c r ih =>
    unfold numA at h
    split at h
    · rename_i hd
      have hd' : 48 ≤ c.toNat ∧ c.toNat ≤ 57 := by simpa [digB] using hd
      have := ih _ h
      simp only [List.length_cons, Nat.pow_succ]
      have h2 : (acc * 10 + (c.toNat - 48) + 1) * 10 ^ r.length ≤ ((acc + 1) * 10) * 10 ^ r.length := Nat.mul_le_mul_right _ (by omega)
      have h3 : ((acc + 1) * 10) * 10 ^ r.length = (acc + 1) * (10 ^ r.length * 10) := by rw [Nat.mul_assoc, Nat.mul_comm 10]
      omega
    · cases h

theorem ret_opt {o o' : Option Nat} (h : o = o') : Ending.returned (optV o) = .returned (optV o') := by rw [h]

set_option maxHeartbeats 1000000 in
theorem number_any (s : ByteArray) (least most : Nat) (w : World) (h4 : most ≤ 4) (hl : least ≤ 4) :
    Calls Tryz.prog 61 #[.string s, .int .i64 (least : Int), .int .i64 (most : Int)] w fun e w' => e = .returned (optV (numR s.data.toList least most)) ∧ w' = w := by
  unfold numR
  rw [sizeL]
  by_cases a1 : s.size < least
  · rw [if_pos (Or.inl a1)]
    have a1' : (s.size : Int) < (least : Int) := by omega
    go_enter Tryz.func61, Tryz.ntmps61
    go_wp2
    go_ret2
    exact ⟨rfl, rfl⟩
  by_cases a2 : most < s.size
  · rw [if_pos (Or.inr a2)]
    have a1' : ¬ (s.size : Int) < (least : Int) := by omega
    have a2' : (most : Int) < (s.size : Int) := by omega
    go_enter Tryz.func61, Tryz.ntmps61
    go_wp2
    go_ret2
    exact ⟨rfl, rfl⟩
  rw [if_neg (by omega)]
  have a1' : ¬ (s.size : Int) < (least : Int) := by omega
  have a2' : ¬ (most : Int) < (s.size : Int) := by omega
  have hs4 : s.size ≤ 4 := by omega
  clear a1 a2 hl h4
  go_enter Tryz.func61, Tryz.ntmps61
  go_wp2
  go_loop [8, 22] (fun n i => ∃ (k acc : Nat), k ≤ s.size ∧ i = .int .i64 (k : Int) ∧ n = .int .i64 (acc : Int) ∧ acc < 10 ^ k ∧ numA 0 s.data.toList = numA acc (s.data.toList.drop k)) (fun _ i => s.size - (intOf i).toNat)
  case atStart => exact ⟨0, 0, by omega, rfl, rfl, by simp, rfl⟩
  case round =>
    obtain ⟨k, acc, hk, rfl, rfl, hac, heq⟩ := hrel
    have hp : (10 : Nat) ^ k ≤ 10 ^ 4 := Nat.pow_le_pow_right (by omega) (by omega)
    have hp4 : (10 : Nat) ^ 4 = 10000 := by decide
    by_cases hlt : k < s.size
    · rw [drop_byte s k hlt] at heq
      have hc := s[k].toNat_lt
      have hgo : ∀ n : Nat, n = s[k].toNat → numA acc (s[k] :: s.data.toList.drop (k + 1)) = if 48 ≤ n ∧ n ≤ 57 then numA (acc * 10 + (n - 48)) (s.data.toList.drop (k + 1)) else none := by
        intro n hn; subst hn
        conv => lhs; unfold numA
        by_cases hd : 48 ≤ s[k].toNat ∧ s[k].toNat ≤ 57
        · simp [digB, hd]
        · simp only [digB, decide_eq_false hd, if_neg hd]; rfl
      have HG := hide hgo
      have HE := hide heq
      clear hgo heq
      by_cases d1 : s[k].toNat < 48
      · have d1' : (s[k].toNat : Int) < 48 := by omega
        have he := unhide HE
        rw [unhide HG _ rfl, if_neg (by omega)] at he
        rw [he]
        clear HE HG
        go_wp2
        go_ret2
        exact ⟨rfl, rfl⟩
      by_cases d2 : 57 < s[k].toNat
      · have d1' : ¬ (s[k].toNat : Int) < 48 := by omega
        have d2' : 57 < (s[k].toNat : Int) := by omega
        have he := unhide HE
        rw [unhide HG _ rfl, if_neg (by omega)] at he
        rw [he]
        clear HE HG
        go_wp2
        go_ret2
        exact ⟨rfl, rfl⟩
      have d1' : 48 ≤ (s[k].toNat : Int) := by omega
      have d2' : (s[k].toNat : Int) ≤ 57 := by omega
      have he := unhide HE
      rw [unhide HG _ rfl, if_pos (by omega)] at he
      have HE2 := hide he
      clear HE HG he
      go_wp2
      go_round
      case rel => exact ⟨k + 1, acc * 10 + (s[k].toNat - 48), by omega, by go_num, by congr 1; omega, by rw [Nat.pow_succ]; omega, unhide HE2⟩
      case measure => simp [intOf]; omega
    · obtain rfl : k = s.size := by omega
      rw [drop_end s (Nat.le_refl _)] at heq
      have HE : Hid (numA 0 s.data.toList = some acc) := heq.trans (by simp [numA])
      clear heq
      go_wp2
      go_ret2
      exact ⟨by rw [unhide HE]; rfl, rfl⟩

theorem name_part (k : Nat) (h : k < 12) : ((bts [74, 97, 110, 70, 101, 98, 77, 97, 114, 65, 112, 114, 77, 97, 121, 74, 117, 110, 74, 117, 108, 65, 117, 103, 83, 101, 112, 79, 99, 116, 78, 111, 118, 68, 101, 99]).extract (k * 3) (k * 3 + 3)) = bts (nmL k) := by
  have : k = 0 ∨ k = 1 ∨ k = 2 ∨ k = 3 ∨ k = 4 ∨ k = 5 ∨ k = 6 ∨ k = 7 ∨ k = 8 ∨ k = 9 ∨ k = 10 ∨ k = 11 := by omega
  rcases this with rfl | rfl | rfl | rfl | rfl | rfl | rfl | rfl | rfl | rfl | rfl | rfl <;> (apply ext_list; rw [toList_part, toList_bts, toList_bts]; rfl)

set_option maxHeartbeats 1000000 in
theorem nameOf_any (k : Nat) (w : World) (h : k < 12) :
    Calls Tryz.prog 93 #[.int .i64 ((k : Int) + 1)] w fun e w' => e = .returned (.string (bts (nmL k))) ∧ w' = w := by
  have hp := name_part k h
  have hk : (k : Int) ≤ 11 := by omega
  have hsl : ∀ W : World, (Instr.slice 9 (.string (bts [74, 97, 110, 70, 101, 98, 77, 97, 114, 65, 112, 114, 77, 97, 121, 74, 117, 110, 74, 117, 108, 65, 117, 103, 83, 101, 112, 79, 99, 116, 78, 111, 118, 68, 101, 99])) (some (.int .i64 ((k : Int) * 3))) (some (.int .i64 (((k : Int) + 1) * 3))) none).run Tryz.prog W = .ok (.string (bts (nmL k))) W := by
    intro W
    have := slice_km (bts [74, 97, 110, 70, 101, 98, 77, 97, 114, 65, 112, 114, 77, 97, 121, 74, 117, 110, 74, 117, 108, 65, 117, 103, 83, 101, 112, 79, 99, 116, 78, 111, 118, 68, 101, 99]) (k * 3) 3 (by rw [size_bts]; simp; omega) W
    rw [hp] at this
    rwa [show ((k * 3 : Nat) : Int) = (k : Int) * 3 by omega, show (k : Int) * 3 + ((3 : Nat) : Int) = ((k : Int) + 1) * 3 by omega] at this
  simp only [bts, List.toArray] at hsl
  clear hp
  have HS := hide hsl
  go_enter Tryz.func93, Tryz.ntmps93
  go_wp2
  go_ret
  exact ⟨rfl, rfl⟩

end Go.Proofs.YtdallfakfhajdaaGreatDoor

/-
  What date.monthOf and the moment's has, take and readDay do, over this seat's program.
-/
set_option linter.unusedVariables false
namespace Go.Proofs.YtdallfakfhajdaaGreatDoor
open Go.RowKit Go.Proofs.Dcl

theorem nmL_len (k : Nat) (h : k < 12) : (nmL k).length = 3 := by
  have : k = 0 ∨ k = 1 ∨ k = 2 ∨ k = 3 ∨ k = 4 ∨ k = 5 ∨ k = 6 ∨ k = 7 ∨ k = 8 ∨ k = 9 ∨ k = 10 ∨ k = 11 := by omega
  rcases this with rfl | rfl | rfl | rfl | rfl | rfl | rfl | rfl | rfl | rfl | rfl | rfl <;> rfl

def monV (m : Nat) : Value := if m = 0 then .tuple #[.int .i64 0, .bool false] else .tuple #[.int .i64 (m : Int), .bool true]

set_option maxHeartbeats 1000000 in
theorem monthOf_any (s : ByteArray) (w : World) (hs : s.size ≤ 281474976710656) :
    Calls Tryz.prog 63 #[.string s] w fun e w' => e = .returned (monV (monR s.data.toList)) ∧ ∃ q, w' = w.drewN q := by
  go_enter Tryz.func63, Tryz.ntmps63
  go_wp2
  go_loopw [5] (fun i wr => ∃ k q : Nat, i = .int .i64 (k : Int) ∧ k ≤ 12 ∧ Hid (monR s.data.toList = monF s.data.toList (12 - k) k) ∧ wr = w.drewN q) (fun i _ => 12 - (intOf i).toNat)
  case atStart => exact ⟨0, 0, rfl, by omega, hide rfl, rfl⟩
  case round =>
    obtain ⟨k, q, rfl, hk, HE, rfl⟩ := hrel
    by_cases hlt : k < 12
    · have hlt' : (k : Int) < 12 := by omega
      have HN := hide (fun W => nameOf_any k W hlt)
      have HL := hide (fun W => like_any s (bts (nmL k)) W hs (by rw [size_bts, nmL_len k hlt]; omega))
      have he := unhide HE
      obtain ⟨f, hf⟩ : ∃ f, 12 - k = f + 1 := ⟨11 - k, by omega⟩
      rw [hf] at he
      unfold monF at he
      rw [toList_bts] at HL
      clear HE
      by_cases hm : smL s.data.toList = smL (nmL k)
      · rw [if_pos hm] at he
        rw [decide_eq_true hm] at HL
        have HE := hide he
        clear hm he hf
        go_wp2_with fail
        refine (unhide HN _).mono ?_
        rintro e _ ⟨rfl, rfl⟩
        go_wp2_with fail
        refine (unhide HL _).mono ?_
        rintro e _ ⟨rfl, q2, rfl⟩
        go_wp2
        go_ret2
        exact ⟨by rw [unhide HE]; simp [monV], q + q2, by first | rfl | rw [World.drewN_drewN]⟩
      · rw [if_neg hm] at he
        rw [decide_eq_false hm] at HL
        have HE := hide he
        have hf' : f = 12 - (k + 1) := by omega
        subst hf'
        clear hm he hf
        go_wp2_with fail
        refine (unhide HN _).mono ?_
        rintro e _ ⟨rfl, rfl⟩
        go_wp2_with fail
        refine (unhide HL _).mono ?_
        rintro e _ ⟨rfl, q2, rfl⟩
        go_wp2
        go_roundw
        case rel => exact ⟨k + 1, q + q2, by go_num, by omega, HE, by first | rfl | rw [World.drewN_drewN]⟩
        case measure => simp [intOf]; omega
    · obtain rfl : k = 12 := by omega
      go_wp2
      go_ret2
      exact ⟨by rw [unhide HE]; rfl, q, rfl⟩

/-- A moment at work: its day, second, zone, and what is left of its text. -/
def Mom (w : World) (b : Nat) (d s z : Int) (l : ByteArray) : Prop := Blk w b 94 #[.int .i64 d, .int .i64 s, .int .i64 z, .string l]

theorem Mom.left {w : World} {b : Nat} {d s z : Int} {l : ByteArray} (h : Mom w b d s z l) (l' : ByteArray) : Mom (w.setCell ⟨b, 3, none⟩ (.string l')) b d s z l' := Blk.set h 3 (.string l')
theorem Mom.day {w : World} {b : Nat} {d s z : Int} {l : ByteArray} (h : Mom w b d s z l) (d' : Int) : Mom (w.setCell ⟨b, 0, none⟩ (.int .i64 d')) b d' s z l := Blk.set h 0 (.int .i64 d')
theorem Mom.drew {w : World} {b : Nat} {d s z : Int} {l : ByteArray} (h : Mom w b d s z l) (q : Nat) : Mom (w.drewN q) b d s z l := h

/-- What is left behind a byte that is asked for. -/
def behindB (c : UInt8) (l : ByteArray) : ByteArray := if l.data.toList.head? = some c then l.extract 1 l.size else l

set_option maxHeartbeats 1000000 in
theorem take_any (b : Nat) (d s z : Int) (l : ByteArray) (k : Nat) (w : World) (hM : Mom w b d s z l) (hs : l.size ≤ 281474976710656) (hk : k ≤ 281474976710656) :
    Calls Tryz.prog 110 #[.pointer (some ⟨b, 0, none⟩), .int .i64 (k : Int)] w fun e w' => e = .returned (.string (bts (l.data.toList.take k))) ∧ w' = w.setCell ⟨b, 3, none⟩ (.string (bts (l.data.toList.drop k))) := by
  have c3 : w.cell? ⟨b, 3, none⟩ = some (.string l) := (Blk.cell hM 3).trans rfl
  have f3 := Blk.frozen hM 3
  clear hM
  by_cases hlt : k ≤ l.size
  · have hlt' : (k : Int) ≤ (l.size : Int) := by omega
    have S1 := fun W => slice_upto l (k : Int) k rfl hlt W
    have S2 := fun W => slice_from l (k : Int) k rfl hlt W
    have e1 : l.extract 0 k = bts (l.data.toList.take k) := ext_list (by rw [toList_upto, toList_bts])
    have e2 : l.extract k l.size = bts (l.data.toList.drop k) := ext_list (by rw [toList_from, toList_bts])
    rw [e1] at S1
    rw [e2] at S2
    generalize bts (l.data.toList.take k) = p at S1 ⊢
    generalize bts (l.data.toList.drop k) = q at S2 ⊢
    clear e1 e2
    have hmin : min (k : Int) (l.size : Int) = (k : Int) := by omega
    go_enter Tryz.func110, Tryz.ntmps110
    go_wp2
    go_ret
    exact ⟨rfl, rfl⟩
  · have hlt' : ¬ (k : Int) ≤ (l.size : Int) := by omega
    have S1 := fun W => slice_upto l (l.size : Int) l.size rfl (Nat.le_refl _) W
    have S2 := fun W => slice_from l (l.size : Int) l.size rfl (Nat.le_refl _) W
    have e1 : l.extract 0 l.size = bts (l.data.toList.take k) := ext_list (by rw [toList_upto, toList_bts, List.take_of_length_le (by rw [sizeL]; omega), List.take_of_length_le (by rw [sizeL]; omega)])
    have e2 : l.extract l.size l.size = bts (l.data.toList.drop k) := ext_list (by rw [toList_from, toList_bts, List.drop_of_length_le (by rw [sizeL]; omega), List.drop_of_length_le (by rw [sizeL]; omega)])
    rw [e1] at S1
    rw [e2] at S2
    generalize bts (l.data.toList.take k) = p at S1 ⊢
    generalize bts (l.data.toList.drop k) = q at S2 ⊢
    clear e1 e2
    have hmin : min (k : Int) (l.size : Int) = (l.size : Int) := by omega
    go_enter Tryz.func110, Tryz.ntmps110
    go_wp2
    go_ret
    exact ⟨rfl, rfl⟩

end Go.Proofs.YtdallfakfhajdaaGreatDoor

/-
  What the moment's readDay does, over this seat's program.
-/
set_option linter.unusedVariables false
namespace Go.Proofs.YtdallfakfhajdaaGreatDoor
open Go.RowKit Go.Proofs.Dcl

section
variable {P : Program} {a : Act} {w : World} {Q : Exit → Act → World → Prop}
/-- A scope with one label that is gone to from ahead of it. -/
theorem wp_scope_out {c rest : Code} (l : Nat) (J : Act → World → Prop) (hf : findLabel c l = some (Code.skip.seq rest))
    (first : c.wp P (Exit.jump l J Q) a w)
    (pass : ∀ a w, J a w → rest.wp P (Exit.jump l (fun a' w' => J a' w' ∧ 0 < 0) Q) a w) : (Code.scope c).wp P Q a w :=
  wp_scope_jumps l J (fun _ _ => 0) hf first (fun a w h => wp_seq (wp_skip (pass a w h)))
end

/-- A day's text: so many digits, a name, four digits. -/
def readDayR (k : Nat) (l : List UInt8) : Option (Int × List UInt8) :=
  match numR (l.take k) k k with
  | none => none
  | some d =>
    if (l.drop k).head? = some 45 then
      if monR (((l.drop k).drop 1).take 3) = 0 then none
      else if (((l.drop k).drop 1).drop 3).head? = some 45 then
        match numR (((((l.drop k).drop 1).drop 3).drop 1).take 4) 4 4 with
        | none => none
        | some y =>
          if vldB y (monR (((l.drop k).drop 1).take 3)) d then some (num y (monR (((l.drop k).drop 1).take 3)) d, ((((l.drop k).drop 1).drop 3).drop 1).drop 4) else none
      else none
    else none

theorem behind_yes {c : UInt8} {l : ByteArray} (h : l.data.toList.head? = some c) : behindB c l = bts (l.data.toList.drop 1) := by
  unfold behindB; rw [if_pos h]; exact ext_list (by rw [toList_from, toList_bts])
theorem behind_no {c : UInt8} {l : ByteArray} (h : ¬ l.data.toList.head? = some c) : behindB c l = l := by
  unfold behindB; rw [if_neg h]

theorem LTab.belowB {w w' : World} {b : Nat} (h : LTab w) (hb : Below b w w') (hg : 1 < b) : LTab w' := by
  have hz := hb.size
  have h5 := h.size
  refine ⟨by omega, fun j hj => ?_⟩
  rw [hb.cell (p := ⟨1, j, none⟩) hg]; exact h.cells j hj

/-- What is so where no day is read. -/
def NoDay (b : Nat) (s z : Int) (w w' : World) : Prop := ∃ d' l', Mom w' b d' s z l' ∧ Below b w w'
def JDay (b : Nat) (s z : Int) (w : World) (k : Nat) (l : List UInt8) (a' : Act) (w' : World) : Prop :=
  ∃ u : Nat → Value, a' = { tmps := #[u 0, u 1, u 2, u 3, u 4, u 5, u 6, u 7, u 8, u 9, u 10, u 11, u 12, u 13, u 14, u 15, u 16, u 17, u 18, u 19, u 20, u 21, u 22, u 23, u 24, u 25, u 26, u 27, u 28, u 29, u 30, u 31, u 32, u 33, u 34, u 35, u 36, u 37, u 38, u 39, u 40, u 41, u 42, u 43, u 44, u 45, u 46, u 47, u 48, u 49, u 50, u 51, u 52, u 53, u 54, u 55, u 56, u 57, u 58, u 59], defers := [] } ∧ Hid (readDayR k l = none ∧ NoDay b s z w w')
theorem JDay.mk {b : Nat} {s z : Int} {w : World} {k : Nat} {l : List UInt8} {a' : Act} {w' : World}
    (ha : a' = { tmps := #[a'.tmps.getD 0 undef, a'.tmps.getD 1 undef, a'.tmps.getD 2 undef, a'.tmps.getD 3 undef, a'.tmps.getD 4 undef, a'.tmps.getD 5 undef, a'.tmps.getD 6 undef, a'.tmps.getD 7 undef, a'.tmps.getD 8 undef, a'.tmps.getD 9 undef, a'.tmps.getD 10 undef, a'.tmps.getD 11 undef, a'.tmps.getD 12 undef, a'.tmps.getD 13 undef, a'.tmps.getD 14 undef, a'.tmps.getD 15 undef, a'.tmps.getD 16 undef, a'.tmps.getD 17 undef, a'.tmps.getD 18 undef, a'.tmps.getD 19 undef, a'.tmps.getD 20 undef, a'.tmps.getD 21 undef, a'.tmps.getD 22 undef, a'.tmps.getD 23 undef, a'.tmps.getD 24 undef, a'.tmps.getD 25 undef, a'.tmps.getD 26 undef, a'.tmps.getD 27 undef, a'.tmps.getD 28 undef, a'.tmps.getD 29 undef, a'.tmps.getD 30 undef, a'.tmps.getD 31 undef, a'.tmps.getD 32 undef, a'.tmps.getD 33 undef, a'.tmps.getD 34 undef, a'.tmps.getD 35 undef, a'.tmps.getD 36 undef, a'.tmps.getD 37 undef, a'.tmps.getD 38 undef, a'.tmps.getD 39 undef, a'.tmps.getD 40 undef, a'.tmps.getD 41 undef, a'.tmps.getD 42 undef, a'.tmps.getD 43 undef, a'.tmps.getD 44 undef, a'.tmps.getD 45 undef, a'.tmps.getD 46 undef, a'.tmps.getD 47 undef, a'.tmps.getD 48 undef, a'.tmps.getD 49 undef, a'.tmps.getD 50 undef, a'.tmps.getD 51 undef, a'.tmps.getD 52 undef, a'.tmps.getD 53 undef, a'.tmps.getD 54 undef, a'.tmps.getD 55 undef, a'.tmps.getD 56 undef, a'.tmps.getD 57 undef, a'.tmps.getD 58 undef, a'.tmps.getD 59 undef], defers := [] }) (h : readDayR k l = none) (d' : Int) (l' : ByteArray) (hm : Mom w' b d' s z l') (hb : Below b w w') : JDay b s z w k l a' w' :=
  ⟨fun i => a'.tmps.getD i undef, ha, h, d', l', hm, hb⟩

theorem setB {b : Nat} {w w1 : World} (h : Below b w w1) (i : Nat) (v : Value) : Below b w (w1.setCell ⟨b, i, none⟩ v) := h.setCell (p := ⟨b, i, none⟩) (Nat.le_refl _) v

theorem size_drop (l : List UInt8) (k n : Nat) (h : l.length ≤ n) : (bts (l.drop k)).size ≤ n := by
  rw [size_bts, List.length_drop]; omega

end Go.Proofs.YtdallfakfhajdaaGreatDoor

/-
  What date.Parse does, over this seat's program.
-/
set_option linter.unusedVariables false
namespace Go.Proofs.YtdallfakfhajdaaGreatDoor
open Go.RowKit Go.Proofs.Dcl

/-- The day, if nothing is left. -/
def dayOnly (o : Option (Int × List UInt8)) : Option Int := match o with
  | some (d, []) => some d
  | _ => none
/-- A client's day. -/
def parseR (l : List UInt8) : Option Int :=
  if Lib.indexByte l 45 < 1 ∨ 2 < Lib.indexByte l 45 ∨ (Lib.indexByte l 45 = 2 ∧ l.head? = some 48) then none
  else dayOnly (readDayR (Lib.indexByte l 45).toNat l)
/-- A number, or an error. -/
def numV (o : Option Int) (no : Int) : Value := match o with
  | some n => .tuple #[.int .i64 n, .int .i64 0]
  | none => .tuple #[.int .i64 0, .int .i64 no]

theorem mom_new (w : World) (l : ByteArray) : Mom (w.alloc (.cells #[.int .i64 0, .int .i64 0, .int .i64 0, .string l] 94)) w.heap.size 0 0 0 l := Blk.new w _ _

theorem bts_ne (l : List UInt8) : ((bts l).toList == (ByteArray.toList { data := #[] })) = decide (l = []) := by
  rw [ByteArray.toList_eq, ByteArray.toList_eq, toList_bts]
  cases l <;> simp

end Go.Proofs.YtdallfakfhajdaaGreatDoor

/-
  What strings.Cut at one byte, the moment's takeWord, date.fullYear and date.Mail do, over this seat's program.
-/
set_option linter.unusedVariables false
namespace Go.Proofs.YtdallfakfhajdaaGreatDoor
open Go.RowKit Go.Proofs.Dcl

/-- A blank. -/
def blB (c : UInt8) : Bool := ([32, 9] : List UInt8).contains c
/-- How many bytes a word has. -/
def wordN (l : List UInt8) : Nat := if Lib.indexAny l [32, 9] < 0 then l.length else (Lib.indexAny l [32, 9]).toNat
/-- A word between blanks, and what is behind it. -/
def wordR (l : List UInt8) : List UInt8 × List UInt8 := ((l.dropWhile blB).take (wordN (l.dropWhile blB)), (l.dropWhile blB).drop (wordN (l.dropWhile blB)))
theorem dropB_len (l : List UInt8) : (l.dropWhile blB).length ≤ l.length := (List.dropWhile_sublist (p := blB) (l := l)).length_le
theorem wordR_len (l : List UInt8) : (wordR l).1.length ≤ l.length ∧ (wordR l).2.length ≤ l.length := by
  have := dropB_len l
  simp only [wordR, List.length_take, List.length_drop]
  omega

/-- What strings.IndexAny tells of blanks in a text. -/
def IxAny (l : List UInt8) : Prop := ∀ W, Calls Tryz.prog 109 #[.string (bts l), .string ⟨#[32, 9]⟩] W fun e w' => e = .returned (.int .i64 (Lib.indexAny l [32, 9])) ∧ Below W.heap.size W w'
theorem ixAny_ascii (l : List UInt8) (h : ∀ c ∈ l, c.toNat < 128) (hl : l.length ≤ 4294967280) : IxAny l := by
  intro W
  have := Tryz.strings_IndexAny_laid (bts l) ⟨#[32, 9]⟩ W (by rw [size_bts]; omega) (by decide) (by rw [toList_bts]; intro j b hb; exact h b (List.mem_of_getElem? hb)) (ascii_of_all (by decide))
  rw [toList_bts] at this
  exact this

theorem trimLeft_any (l : List UInt8) (w : World) :
    Calls Tryz.prog 108 #[.string (bts l), .string ⟨#[32, 9]⟩] w fun e w' => e = .returned (.string (bts (l.dropWhile blB))) ∧ Below w.heap.size w w' := by
  have h := Any.strings_TrimLeft_laid Tryz.lays161 (by kernel_rfl) (bts l) ⟨#[32, 9]⟩ w (by decide) (ascii_of_all (by decide))
  rw [toList_bts] at h
  exact h

theorem Mom.below {w w' : World} {b : Nat} {d s z : Int} {l : ByteArray} (h : Mom w b d s z l) (hb : Below w.heap.size w w') : Mom w' b d s z l := Blk.below h hb

theorem wordN_le (l : List UInt8) : wordN l ≤ l.length := by
  unfold wordN
  split
  · omega
  · have : ∀ l : List UInt8, Lib.indexAny l [32, 9] ≤ l.length := by
      intro l
      induction l with
      | nil => simp [Lib.indexAny]
      | cons c r ih =>
        simp only [Lib.indexAny, List.length_cons]
        split
        · omega
        · split <;> omega
    have := this l
    omega

set_option maxHeartbeats 1000000 in
theorem takeWord_any (b : Nat) (d s z : Int) (l : List UInt8) (w : World) (hM : Mom w b d s z (bts l)) (hl : l.length ≤ 281474976710656) (hx : IxAny (l.dropWhile blB)) :
    Calls Tryz.prog 62 #[.pointer (some ⟨b, 0, none⟩)] w fun e w' => e = .returned (.string (bts (wordR l).1)) ∧ Mom w' b d s z (bts (wordR l).2) ∧ Below b w w' := by
  have hdl := dropB_len l
  have hblt : b < w.heap.size := Blk.lt hM
  have c3 : w.cell? ⟨b, 3, none⟩ = some (.string (bts l)) := (Blk.cell hM 3).trans rfl
  have HT := hide (trimLeft_any l w)
  have HM := hide hM
  have HX := hide hx
  unfold wordR
  clear hM hx
  obtain ⟨L, hL⟩ : ∃ L, L = l.dropWhile blB := ⟨_, rfl⟩
  rw [← hL] at HT HX hdl ⊢
  clear hL
  go_enter Tryz.func62, Tryz.ntmps62
  go_wp2_with fail
  refine (unhide HT).mono ?_
  rintro e w1 ⟨rfl, hb1⟩
  have hM1 := (unhide HM).below hb1
  have f3 := Blk.frozen hM1 3
  have c3' : w1.cell? ⟨b, 3, none⟩ = some (.string (bts l)) := (Blk.cell hM1 3).trans rfl
  have HM2 := hide (hM1.left (bts L))
  have HB2 := hide (setB (hb1.mono (Nat.le_of_lt hblt)) 3 (.string (bts L)))
  clear HT HM c3 hb1 hM1
  have c4 := (Blk.cell (unhide HM2) 3).trans (rfl : _ = some (Value.string (bts L)))
  go_wp2_with fail
  generalize w1.setCell ⟨b, 3, none⟩ (.string (bts L)) = w2 at HM2 HB2 c4 ⊢
  clear c3' f3
  refine (unhide HX _).mono ?_
  rintro e w3 ⟨rfl, hb3⟩
  have HM3 := hide ((unhide HM2).below hb3)
  have HB3 := hide ((unhide HB2).trans (hb3.mono (Nat.le_of_lt (Blk.lt (unhide HM2)))))
  clear HM2 HB2 c4 hb3 HX
  have c5 : w3.cell? ⟨b, 3, none⟩ = some (.string (bts L)) := (Blk.cell (unhide HM3) 3).trans rfl
  have hsz : (bts L).size = L.length := size_bts L
  have HK := hide (take_any b d s z (bts L) (wordN L) w3 (unhide HM3) (by omega) (by have := wordN_le L; omega))
  rw [toList_bts] at HK
  have HM4 := hide ((unhide HM3).left (bts (L.drop (wordN L))))
  have HB4 := hide (setB (unhide HB3) 3 (.string (bts (L.drop (wordN L)))))
  by_cases hneg : Lib.indexAny L [32, 9] < 0
  · have hn : wordN L = L.length := by unfold wordN; rw [if_pos hneg]
    rw [hn, List.take_length, List.drop_length] at HK
    rw [hn, List.drop_length] at HM4 HB4
    have HN := hide hn
    clear hn
    generalize Lib.indexAny L [32, 9] = i at hneg ⊢
    go_wp2_with fail
    refine (unhide HK).mono ?_
    rintro e _ ⟨rfl, rfl⟩
    go_wp2
    go_ret
    exact ⟨by rw [unhide HN, List.take_length]; rfl, by rw [unhide HN, List.drop_length]; exact unhide HM4, unhide HB4⟩
  · have hn : Lib.indexAny L [32, 9] = (wordN L : Int) := by unfold wordN; rw [if_neg hneg]; omega
    rw [hn]
    have hneg' : ¬ (wordN L : Int) < 0 := by omega
    clear hn hneg
    obtain ⟨k, hk⟩ : ∃ k, wordN L = k := ⟨_, rfl⟩
    rw [hk] at HK HM4 HB4 hneg' ⊢
    have HN := hide hk
    clear hk
    go_wp2_with fail
    refine (unhide HK).mono ?_
    rintro e _ ⟨rfl, rfl⟩
    go_wp2
    go_ret
    exact ⟨by rw [unhide HN]; rfl, by rw [unhide HN]; exact unhide HM4, unhide HB4⟩

/-- A mail's year, with what it leaves out. -/
def fullR (y n : Nat) : Nat := if n = 2 ∧ y < 50 then y + 2000 else if n < 4 then y + 1900 else y

set_option maxHeartbeats 1000000 in
theorem fullYear_any (y n : Nat) (w : World) (hy : y ≤ 100000) (hn : n ≤ 100000) :
    Calls Tryz.prog 65 #[.int .i64 (y : Int), .int .i64 (n : Int)] w fun e w' => e = .returned (.int .i64 (fullR y n : Int)) ∧ w' = w := by
  unfold fullR
  by_cases h2 : n = 2
  · subst h2
    by_cases h50 : y < 50
    · rw [if_pos ⟨rfl, h50⟩]
      have h50' : (y : Int) < 50 := by omega
      go_enter Tryz.func65, Tryz.ntmps65
      go_wp2
      go_ret
      exact ⟨ret_int (by omega), rfl⟩
    · rw [if_neg (fun h => h50 h.2), if_pos (by omega)]
      have h50' : ¬ (y : Int) < 50 := by omega
      go_enter Tryz.func65, Tryz.ntmps65
      go_wp2
      go_ret
      exact ⟨ret_int (by omega), rfl⟩
  · have h2' : ((n : Int) == 2) = false := by rw [beq_eq_false_iff_ne]; omega
    rw [if_neg (fun h => h2 h.1)]
    by_cases h4 : n < 4
    · rw [if_pos h4]
      have h4' : (n : Int) < 4 := by omega
      go_enter Tryz.func65, Tryz.ntmps65
      go_wp2
      go_ret
      exact ⟨ret_int (by omega), rfl⟩
    · rw [if_neg h4]
      have h4' : ¬ (n : Int) < 4 := by omega
      go_enter Tryz.func65, Tryz.ntmps65
      go_wp2
      go_ret
      exact ⟨rfl, rfl⟩

end Go.Proofs.YtdallfakfhajdaaGreatDoor

/-
  What date.Mail does, over this seat's program.
-/
set_option linter.unusedVariables false
namespace Go.Proofs.YtdallfakfhajdaaGreatDoor
open Go.RowKit Go.Proofs.Dcl

/-- What is behind the first comma, if there is one. -/
def commaR (l : List UInt8) : List UInt8 := match cutAt 44 l with
  | some p => p.2
  | none => l
def ml3 (d m : Nat) (w : List UInt8) : Option Int := match numR w 2 4 with
  | none => none
  | some y => if vldB (fullR y w.length) m d then some (num (fullR y w.length) m d) else none
def ml2 (d : Nat) (p : List UInt8 × List UInt8) : Option Int := if monR p.1 = 0 then none else ml3 d (monR p.1) (wordR p.2).1
def ml1 (p : List UInt8 × List UInt8) : Option Int := match numR p.1 1 2 with
  | none => none
  | some d => ml2 d (wordR p.2)
/-- The day of a mail's Date. -/
def mailR (l : List UInt8) : Option Int := ml1 (wordR (commaR l))

theorem comma_suffix (l : List UInt8) : commaR l <:+ l := by
  unfold commaR
  have := index_cut 44 l
  cases h : cutAt 44 l with
  | none => exact List.suffix_refl _
  | some p =>
    rw [h] at this
    obtain ⟨_, h2⟩ := this
    exact ⟨p.1 ++ [44], by rw [List.append_assoc]; exact h2.symm⟩
theorem word_suffix (l : List UInt8) : (wordR l).2 <:+ l := (List.drop_suffix _ _).trans (List.dropWhile_suffix _)

theorem numR_le {l : List UInt8} {a b n : Nat} (h : numR l a b = some n) : l.length ≤ b ∧ n < 10 ^ b := by
  unfold numR at h
  split at h
  · cases h
  · rename_i hlen
    have hl : l.length ≤ b := by omega
    have := numA_bound l 0 n h
    have h2 : (10 : Nat) ^ l.length ≤ 10 ^ b := Nat.pow_le_pow_right (by omega) hl
    exact ⟨hl, by omega⟩

/-- A mail's Date at work. -/
structure MT (w W : World) (l : List UInt8) : Prop where
  mom : Mom W w.heap.size 0 0 0 (bts l)
  bel : Below w.heap.size w W
  len : l.length ≤ 140737488355328
  ix : ∀ t, t <:+ l → IxAny t

theorem mWord {w W : World} {l : List UInt8} (h : MT w W l) :
    Calls Tryz.prog 62 #[.pointer (some ⟨w.heap.size, 0, none⟩)] W fun e w' => e = .returned (.string (bts (wordR l).1)) ∧ MT w w' (wordR l).2 := by
  refine (takeWord_any w.heap.size 0 0 0 l W h.mom (by have := h.len; omega) (h.ix _ (List.dropWhile_suffix _))).mono ?_
  rintro e w' ⟨rfl, h1, h2⟩
  exact ⟨rfl, h1, h.bel.trans h2, by have := wordR_len l; have := h.len; omega, fun t ht => h.ix t (ht.trans (word_suffix l))⟩

def JMl (w : World) (L : List UInt8) (a' : Act) (w' : World) : Prop :=
  ∃ u : Nat → Value, a' = { tmps := #[u 0, u 1, u 2, u 3, u 4, u 5, u 6, u 7, u 8, u 9, u 10, u 11, u 12, u 13, u 14, u 15, u 16, u 17, u 18, u 19, u 20, u 21, u 22, u 23, u 24, u 25, u 26, u 27, u 28, u 29, u 30, u 31, u 32, u 33, u 34, u 35, u 36, u 37, u 38, u 39, u 40, u 41, u 42, u 43, u 44, u 45, u 46, u 47, u 48, u 49, u 50, u 51, u 52, u 53, u 54, u 55, u 56, u 57, u 58, u 59, u 60], defers := [] } ∧ Hid (mailR L = none) ∧ Hid (Below w.heap.size w w')
theorem JMl.mk {w : World} {L : List UInt8} {a' : Act} {w' : World} (ha : a' = { tmps := #[a'.tmps.getD 0 undef, a'.tmps.getD 1 undef, a'.tmps.getD 2 undef, a'.tmps.getD 3 undef, a'.tmps.getD 4 undef, a'.tmps.getD 5 undef, a'.tmps.getD 6 undef, a'.tmps.getD 7 undef, a'.tmps.getD 8 undef, a'.tmps.getD 9 undef, a'.tmps.getD 10 undef, a'.tmps.getD 11 undef, a'.tmps.getD 12 undef, a'.tmps.getD 13 undef, a'.tmps.getD 14 undef, a'.tmps.getD 15 undef, a'.tmps.getD 16 undef, a'.tmps.getD 17 undef, a'.tmps.getD 18 undef, a'.tmps.getD 19 undef, a'.tmps.getD 20 undef, a'.tmps.getD 21 undef, a'.tmps.getD 22 undef, a'.tmps.getD 23 undef, a'.tmps.getD 24 undef, a'.tmps.getD 25 undef, a'.tmps.getD 26 undef, a'.tmps.getD 27 undef, a'.tmps.getD 28 undef, a'.tmps.getD 29 undef, a'.tmps.getD 30 undef, a'.tmps.getD 31 undef, a'.tmps.getD 32 undef, a'.tmps.getD 33 undef, a'.tmps.getD 34 undef, a'.tmps.getD 35 undef, a'.tmps.getD 36 undef, a'.tmps.getD 37 undef, a'.tmps.getD 38 undef, a'.tmps.getD 39 undef, a'.tmps.getD 40 undef, a'.tmps.getD 41 undef, a'.tmps.getD 42 undef, a'.tmps.getD 43 undef, a'.tmps.getD 44 undef, a'.tmps.getD 45 undef, a'.tmps.getD 46 undef, a'.tmps.getD 47 undef, a'.tmps.getD 48 undef, a'.tmps.getD 49 undef, a'.tmps.getD 50 undef, a'.tmps.getD 51 undef, a'.tmps.getD 52 undef, a'.tmps.getD 53 undef, a'.tmps.getD 54 undef, a'.tmps.getD 55 undef, a'.tmps.getD 56 undef, a'.tmps.getD 57 undef, a'.tmps.getD 58 undef, a'.tmps.getD 59 undef, a'.tmps.getD 60 undef], defers := [] }) (h : mailR L = none) (hp : Below w.heap.size w w') : JMl w L a' w' :=
  ⟨fun i => a'.tmps.getD i undef, ha, h, hp⟩

set_option maxHeartbeats 4000000 in
set_option maxRecDepth 100000 in
theorem mail_any (L : List UInt8) (w : World) (ht : LTab w) (hs : L.length ≤ 140737488355328) (hx : ∀ t, t <:+ L → IxAny t) :
    Calls Tryz.prog 25 #[.string (bts L)] w fun e w' => e = .returned (numV (mailR L) 7) ∧ Below w.heap.size w w' := by
  have hm0 := mom_new w (bts L)
  have hb0 : Below w.heap.size w (w.alloc (.cells #[.int .i64 0, .int .i64 0, .int .i64 0, .string (bts L)] 94)) := (Below.refl _ w).alloc (Nat.le_refl _) _
  have HC := hide (fun W => cut1_any 44 (bts L) W (by rw [size_bts]; omega))
  rw [toList_bts] at HC
  have HTB := hide ht
  have HM0 := hide hm0
  have HB0 := hide hb0
  have HIX := hide hx
  clear hm0 hb0 hx ht
  go_enter Tryz.func25, Tryz.ntmps25
  go_wp2_with fail
  refine wp_scope_out 0 (JMl w L) (by rfl) ?_ ?_
  · go_wp2_with fail
    refine (unhide HC _).mono ?_
    clear HC
    rintro e W ⟨rfl, q, rfl⟩
    have hcm := comma_suffix L
    have HX0 : Hid (mailR L = ml1 (wordR (commaR L))) := hide rfl
    unfold commaR at hcm HX0
    cases hc : cutAt 44 L with
    | none =>
      rw [hc] at hcm HX0
      simp only at hcm HX0
      have HP : Hid (MT w ((w.alloc (.cells #[.int .i64 0, .int .i64 0, .int .i64 0, .string (bts L)] 94)).drewN q) L) := hide ⟨unhide HM0, drewB (unhide HB0) q, hs, unhide HIX⟩
      clear HM0 HB0 HIX hc hcm
      generalize (w.alloc (.cells #[.int .i64 0, .int .i64 0, .int .i64 0, .string (bts L)] 94)).drewN q = W0 at HP ⊢
      obtain ⟨l0, hl0⟩ : ∃ l0, l0 = L := ⟨_, rfl⟩
      rw [← hl0] at HP
      rw [show wordR L = wordR l0 by rw [hl0]] at HX0
      clear hl0
      go_wp2_with fail
      refine (mWord (unhide HP)).mono ?_
      clear HP
      rintro e W1 ⟨rfl, hp⟩
      obtain ⟨x1, l1, hw1⟩ : ∃ x1 l1, wordR l0 = (x1, l1) := ⟨_, _, rfl⟩
      rw [hw1] at HX0 hp
      simp only [hw1]
      simp only at hp
      have HP := hide hp
      clear hp hw1
      have HN1 := hide (number_any (bts x1) 1 2 W1 (by omega) (by omega))
      rw [toList_bts] at HN1
      go_wp2_with fail
      refine (unhide HN1).mono ?_
      clear HN1
      rintro e W1 ⟨rfl, rfl⟩
      cases hn : numR x1 1 2 with
      | none =>
        simp only [optV]
        have HN : Hid (mailR L = none) := hide (by rw [unhide HX0]; unfold ml1; simp only [hn])
        have HF := hide (unhide HP).bel
        clear HP
        go_wp2
        refine wp_goto ?_
        exact ⟨rfl, JMl.mk rfl (unhide HN) (unhide HF)⟩
      | some d =>
        simp only [optV]
        have HX1 : Hid (mailR L = ml2 d (wordR l1)) := hide (by rw [unhide HX0]; unfold ml1; simp only [hn])
        clear hn HX0
        have hl1 := (unhide HP).len
        go_wp2_with fail
        refine (mWord (unhide HP)).mono ?_
        clear HP
        rintro e W2 ⟨rfl, hp⟩
        obtain ⟨x2, l2, hw2⟩ : ∃ x2 l2, wordR l1 = (x2, l2) := ⟨_, _, rfl⟩
        have hxl : x2.length ≤ l1.length := by have := (wordR_len l1).1; rw [hw2] at this; exact this
        rw [hw2] at HX1 hp
        simp only [hw2]
        simp only at hp
        have HL2 := hide hp.len
        have HP := hide hp
        clear hp hw2
        have HN1 := hide (monthOf_any (bts x2) W2 (by rw [size_bts]; omega))
        rw [toList_bts] at HN1
        go_wp2_with fail
        refine (unhide HN1).mono ?_
        clear HN1
        rintro e _ ⟨rfl, q2, rfl⟩
        have HP2 : Hid (MT w (W2.drewN q2) l2) := hide ⟨(unhide HP).mom.drew q2, drewB (unhide HP).bel q2, (unhide HP).len, (unhide HP).ix⟩
        clear HP
        have HP := HP2
        clear HP2
        generalize W2.drewN q2 = W3 at HP ⊢
        have hmle := monR_le x2
        have HX2 : Hid (mailR L = if monR x2 = 0 then none else ml3 d (monR x2) (wordR l2).1) := HX1
        clear HX1 hxl hl1
        generalize monR x2 = m at HX2 hmle ⊢
        by_cases hm0 : m = 0
        · subst hm0
          simp only [monV, if_true]
          have HN : Hid (mailR L = none) := hide (by rw [unhide HX2, if_pos rfl])
          have HF := hide (unhide HP).bel
          clear HP
          go_wp2
          refine wp_goto ?_
          exact ⟨rfl, JMl.mk rfl (unhide HN) (unhide HF)⟩
        rw [if_neg hm0] at HX2
        rw [show monV m = .tuple #[.int .i64 (m : Int), .bool true] by simp [monV, hm0]]
        go_wp2_with fail
        refine (mWord (unhide HP)).mono ?_
        clear HP
        rintro e W4 ⟨rfl, hp⟩
        obtain ⟨x3, l3, hw3⟩ : ∃ x3 l3, wordR l2 = (x3, l3) := ⟨_, _, rfl⟩
        rw [hw3] at HX2 hp
        simp only [hw3]
        simp only at hp
        have HP := hide hp
        clear hp hw3
        have HN1 := hide (number_any (bts x3) 2 4 W4 (by omega) (by omega))
        rw [toList_bts] at HN1
        go_wp2_with fail
        refine (unhide HN1).mono ?_
        clear HN1
        rintro e W4 ⟨rfl, rfl⟩
        cases hn : numR x3 2 4 with
        | none =>
          simp only [optV]
          have HN : Hid (mailR L = none) := hide (by rw [unhide HX2]; unfold ml3; simp only [hn])
          have HF := hide (unhide HP).bel
          clear HP
          go_wp2
          refine wp_goto ?_
          exact ⟨rfl, JMl.mk rfl (unhide HN) (unhide HF)⟩
        | some y =>
          simp only [optV]
          obtain ⟨hl4, hy4⟩ := numR_le hn
          have HX3 : Hid (mailR L = if vldB (fullR y x3.length) m d then some (num (fullR y x3.length) m d) else none) := hide (by rw [unhide HX2]; unfold ml3; simp only [hn])
          clear hn HX2
          have hsz : (bts x3).size = x3.length := size_bts x3
          have HFY := hide (fun W => fullYear_any y x3.length W (by omega) (by omega))
          go_wp2_with fail
          refine (unhide HFY _).mono ?_
          clear HFY
          rintro e W4 ⟨rfl, rfl⟩
          generalize fullR y x3.length = Y at HX3 ⊢
          have HD := hide (day_any (Y : Int) (m : Int) (d : Int) _ ((unhide HTB).below (unhide HP).bel))
          go_wp2_with fail
          refine (unhide HD).mono ?_
          clear HD
          rintro e W4 ⟨rfl, rfl⟩
          cases hv : vldB (Y : Int) (m : Int) (d : Int)
          · rw [dayV_f hv]
            rw [hv] at HX3
            clear hv
            have HN : Hid (mailR L = none) := hide (by rw [unhide HX3]; rfl)
            have HF := hide (unhide HP).bel
            clear HP
            go_wp2
            refine wp_goto ?_
            exact ⟨rfl, JMl.mk rfl (unhide HN) (unhide HF)⟩
          · rw [dayV_t hv]
            rw [hv] at HX3
            clear hv
            have HN : Hid (mailR L = some (num Y m d)) := hide (by rw [unhide HX3]; rfl)
            have HF := hide (unhide HP).bel
            clear HP HX3
            go_wp2
            (try simp only [Exit.inBlock, Exit.then])
            (try simp only [Exit.jump])
            go_ret2
            exact ⟨by rw [unhide HN]; rfl, unhide HF⟩
    | some p =>
      obtain ⟨pn, l0⟩ := p
      rw [hc] at hcm HX0
      simp only at hcm HX0
      have f3 := Blk.frozen (unhide HM0) 3
      have c3 : (w.alloc (.cells #[.int .i64 0, .int .i64 0, .int .i64 0, .string (bts L)] 94)).cell? ⟨w.heap.size, 3, none⟩ = some (.string (bts L)) := (Blk.cell (unhide HM0) 3).trans rfl
      have HP : Hid (MT w (((w.alloc (.cells #[.int .i64 0, .int .i64 0, .int .i64 0, .string (bts L)] 94)).drewN q).setCell ⟨w.heap.size, 3, none⟩ (.string (bts l0))) l0) := hide ⟨((unhide HM0).drew q).left _, setB (drewB (unhide HB0) q) 3 _, by have := hcm.length_le; omega, fun t h => unhide HIX t (h.trans hcm)⟩
      clear HM0 HB0 HIX hc hcm
      go_wp2_with fail
      generalize ((w.alloc (.cells #[.int .i64 0, .int .i64 0, .int .i64 0, .string (bts L)] 94)).drewN q).setCell ⟨w.heap.size, 3, none⟩ (.string (bts l0)) = W0 at HP ⊢
      clear f3 c3
      refine (mWord (unhide HP)).mono ?_
      clear HP
      rintro e W1 ⟨rfl, hp⟩
      obtain ⟨x1, l1, hw1⟩ : ∃ x1 l1, wordR l0 = (x1, l1) := ⟨_, _, rfl⟩
      rw [hw1] at HX0 hp
      simp only [hw1]
      simp only at hp
      have HP := hide hp
      clear hp hw1
      have HN1 := hide (number_any (bts x1) 1 2 W1 (by omega) (by omega))
      rw [toList_bts] at HN1
      go_wp2_with fail
      refine (unhide HN1).mono ?_
      clear HN1
      rintro e W1 ⟨rfl, rfl⟩
      cases hn : numR x1 1 2 with
      | none =>
        simp only [optV]
        have HN : Hid (mailR L = none) := hide (by rw [unhide HX0]; unfold ml1; simp only [hn])
        have HF := hide (unhide HP).bel
        clear HP
        go_wp2
        refine wp_goto ?_
        exact ⟨rfl, JMl.mk rfl (unhide HN) (unhide HF)⟩
      | some d =>
        simp only [optV]
        have HX1 : Hid (mailR L = ml2 d (wordR l1)) := hide (by rw [unhide HX0]; unfold ml1; simp only [hn])
        clear hn HX0
        have hl1 := (unhide HP).len
        go_wp2_with fail
        refine (mWord (unhide HP)).mono ?_
        clear HP
        rintro e W2 ⟨rfl, hp⟩
        obtain ⟨x2, l2, hw2⟩ : ∃ x2 l2, wordR l1 = (x2, l2) := ⟨_, _, rfl⟩
        have hxl : x2.length ≤ l1.length := by have := (wordR_len l1).1; rw [hw2] at this; exact this
        rw [hw2] at HX1 hp
        simp only [hw2]
        simp only at hp
        have HL2 := hide hp.len
        have HP := hide hp
        clear hp hw2
        have HN1 := hide (monthOf_any (bts x2) W2 (by rw [size_bts]; omega))
        rw [toList_bts] at HN1
        go_wp2_with fail
        refine (unhide HN1).mono ?_
        clear HN1
        rintro e _ ⟨rfl, q2, rfl⟩
        have HP2 : Hid (MT w (W2.drewN q2) l2) := hide ⟨(unhide HP).mom.drew q2, drewB (unhide HP).bel q2, (unhide HP).len, (unhide HP).ix⟩
        clear HP
        have HP := HP2
        clear HP2
        generalize W2.drewN q2 = W3 at HP ⊢
        have hmle := monR_le x2
        have HX2 : Hid (mailR L = if monR x2 = 0 then none else ml3 d (monR x2) (wordR l2).1) := HX1
        clear HX1 hxl hl1
        generalize monR x2 = m at HX2 hmle ⊢
        by_cases hm0 : m = 0
        · subst hm0
          simp only [monV, if_true]
          have HN : Hid (mailR L = none) := hide (by rw [unhide HX2, if_pos rfl])
          have HF := hide (unhide HP).bel
          clear HP
          go_wp2
          refine wp_goto ?_
          exact ⟨rfl, JMl.mk rfl (unhide HN) (unhide HF)⟩
        rw [if_neg hm0] at HX2
        rw [show monV m = .tuple #[.int .i64 (m : Int), .bool true] by simp [monV, hm0]]
        go_wp2_with fail
        refine (mWord (unhide HP)).mono ?_
        clear HP
        rintro e W4 ⟨rfl, hp⟩
        obtain ⟨x3, l3, hw3⟩ : ∃ x3 l3, wordR l2 = (x3, l3) := ⟨_, _, rfl⟩
        rw [hw3] at HX2 hp
        simp only [hw3]
        simp only at hp
        have HP := hide hp
        clear hp hw3
        have HN1 := hide (number_any (bts x3) 2 4 W4 (by omega) (by omega))
        rw [toList_bts] at HN1
        go_wp2_with fail
        refine (unhide HN1).mono ?_
        clear HN1
        rintro e W4 ⟨rfl, rfl⟩
        cases hn : numR x3 2 4 with
        | none =>
          simp only [optV]
          have HN : Hid (mailR L = none) := hide (by rw [unhide HX2]; unfold ml3; simp only [hn])
          have HF := hide (unhide HP).bel
          clear HP
          go_wp2
          refine wp_goto ?_
          exact ⟨rfl, JMl.mk rfl (unhide HN) (unhide HF)⟩
        | some y =>
          simp only [optV]
          obtain ⟨hl4, hy4⟩ := numR_le hn
          have HX3 : Hid (mailR L = if vldB (fullR y x3.length) m d then some (num (fullR y x3.length) m d) else none) := hide (by rw [unhide HX2]; unfold ml3; simp only [hn])
          clear hn HX2
          have hsz : (bts x3).size = x3.length := size_bts x3
          have HFY := hide (fun W => fullYear_any y x3.length W (by omega) (by omega))
          go_wp2_with fail
          refine (unhide HFY _).mono ?_
          clear HFY
          rintro e W4 ⟨rfl, rfl⟩
          generalize fullR y x3.length = Y at HX3 ⊢
          have HD := hide (day_any (Y : Int) (m : Int) (d : Int) _ ((unhide HTB).below (unhide HP).bel))
          go_wp2_with fail
          refine (unhide HD).mono ?_
          clear HD
          rintro e W4 ⟨rfl, rfl⟩
          cases hv : vldB (Y : Int) (m : Int) (d : Int)
          · rw [dayV_f hv]
            rw [hv] at HX3
            clear hv
            have HN : Hid (mailR L = none) := hide (by rw [unhide HX3]; rfl)
            have HF := hide (unhide HP).bel
            clear HP
            go_wp2
            refine wp_goto ?_
            exact ⟨rfl, JMl.mk rfl (unhide HN) (unhide HF)⟩
          · rw [dayV_t hv]
            rw [hv] at HX3
            clear hv
            have HN : Hid (mailR L = some (num Y m d)) := hide (by rw [unhide HX3]; rfl)
            have HF := hide (unhide HP).bel
            clear HP HX3
            go_wp2
            (try simp only [Exit.inBlock, Exit.then])
            (try simp only [Exit.jump])
            go_ret2
            exact ⟨by rw [unhide HN]; rfl, unhide HF⟩
  · rintro a' w' ⟨u, rfl, HN, HB⟩
    go_wp2
    (try simp only [Exit.inBlock, Exit.then])
    (try simp only [Exit.jump])
    go_ret2
    exact ⟨by rw [unhide HN]; rfl, unhide HB⟩

end Go.Proofs.YtdallfakfhajdaaGreatDoor

/-
  The walks of missivelaw10.days, DateNext and DateDays, over this seat's program.
-/
set_option linter.unusedVariables false
namespace Go.Proofs.YtdallfakfhajdaaGreatDoor
open Go.RowKit Go.Proofs.Dcl

theorem belowsD {w a b : World} (h1 : Below w.heap.size w a) (h2 : Below a.heap.size a b) : Below w.heap.size w b := h1.trans (h2.mono h1.size)

theorem civ_known {n y m d : Int} {v : Value} (h : CivIs n v) (hv : vldB y m d = true) (hn : num y m d = n) : v = .tuple #[.int .i64 y, .int .i64 m, .int .i64 d, .int .i64 0] := by
  have hd : dayB n = true := by rw [← hn]; exact day_of_vld hv
  obtain ⟨y', m', d', hv', hn', rfl⟩ := h.yes hd
  obtain ⟨rfl, rfl, rfl⟩ := num_inj hv' hv (by rw [hn, hn'])
  rfl

end Go.Proofs.YtdallfakfhajdaaGreatDoor

/-
  What date.digit, writeTwo, writeDay and Write do, over this seat's program.
-/
set_option linter.unusedVariables false
namespace Go.Proofs.YtdallfakfhajdaaGreatDoor
open Go.RowKit Go.Proofs.Dcl

/-- A digit's byte. -/
def dg (n : Nat) : UInt8 := UInt8.ofNat (48 + n)
theorem dg_nat (n : Nat) (h : n < 10) : (dg n).toNat = 48 + n := by unfold dg; simp; omega
/-- Two digits. -/
def twoL (n : Nat) : List UInt8 := [dg (n / 10), dg (n % 10)]
/-- A day's text. -/
def dayT (y m d : Nat) : List UInt8 := (if 10 ≤ d then [dg (d / 10)] else []) ++ ([dg (d % 10)] ++ ([45] ++ (nmL (m - 1) ++ ([45] ++ (twoL (y / 100) ++ twoL (y % 100))))))

set_option maxHeartbeats 400000 in
theorem digit_any (n : Nat) (w : World) (h : n < 10) :
    Calls Tryz.prog 92 #[.int .i64 (n : Int)] w fun e w' => e = .returned (.int .u8 ((dg n).toNat : Int)) ∧ w' = w := by
  rw [dg_nat n h]
  have h' : (n : Int) < 10 := by omega
  go_enter Tryz.func92, Tryz.ntmps92
  go_wp2
  go_ret
  exact ⟨ret_int (by omega), rfl⟩

set_option maxHeartbeats 1000000 in
theorem wTwo {u W : World} {l : List UInt8} (h : Wr u W l) (n : Nat) (hn : n < 100) (hl : l.length ≤ 900) :
    Calls Tryz.prog 94 #[.pointer (some ⟨u.heap.size, 0, none⟩), .int .i64 (n : Int)] W fun e w' => e = .returned (.tuple #[]) ∧ Wr u w' (l ++ twoL n) := by
  have H1 := hide (fun W => digit_any (n / 10) W (by omega))
  have H2 := hide (fun W => digit_any (n % 10) W (by omega))
  rw [show ((n / 10 : Nat) : Int) = (n : Int) / 10 by omega] at H1
  rw [show ((n % 10 : Nat) : Int) = (n : Int) % 10 by omega] at H2
  have HW := hide h
  clear h
  go_enter Tryz.func94, Tryz.ntmps94
  go_wp2_with fail
  refine (unhide H1 _).mono ?_
  rintro e _ ⟨rfl, rfl⟩
  go_wp2_with fail
  refine (wByte (unhide HW) (dg (n / 10)) _ rfl (by omega)).mono ?_
  rintro e W1 ⟨rfl, h1⟩
  have HW1 := hide h1
  clear h1
  go_wp2_with fail
  refine (unhide H2 _).mono ?_
  rintro e _ ⟨rfl, rfl⟩
  go_wp2_with fail
  refine (wByte (unhide HW1) (dg (n % 10)) _ rfl (by simp; omega)).mono ?_
  rintro e W2 ⟨rfl, h2⟩
  go_wp2
  go_end0
  exact ⟨rfl, by rw [List.append_assoc] at h2; exact h2⟩

theorem LTab.wr {u W : World} {l : List UInt8} (h : LTab u) (hw : Wr u W l) : LTab W := h.below hw.bel

theorem dim_le (y m : Int) : dim y m ≤ 31 := (dim_bd y m).2

set_option maxHeartbeats 2000000 in
theorem wDay {u W : World} {l : List UInt8} (h : Wr u W l) (ht : LTab u) (y m d : Nat) (hv : vldB y m d = true) (n : Int) (hn : num y m d = n) (hl : l.length ≤ 800) :
    Calls Tryz.prog 50 #[.pointer (some ⟨u.heap.size, 0, none⟩), .int .i64 n] W fun e w' => e = .returned (.tuple #[]) ∧ Wr u w' (l ++ dayT y m d) := by
  have HC := hide (civil_any n W (ht.wr h))
  obtain ⟨y1, y2, m1, m2, d1, d2⟩ := vld_iff.1 hv
  have d3 := dim_le y m
  have HV := hide (And.intro hv hn)
  have HW := hide h
  clear hv hn h ht
  obtain ⟨k, rfl⟩ : ∃ k, m = k + 1 := ⟨m - 1, by omega⟩
  have hk : k < 12 := by omega
  have hnl := nmL_len k hk
  have HN := hide (fun W => nameOf_any k W hk)
  have HY1 := hide (fun W (l : List UInt8) (h : Wr u W l) (hl : l.length ≤ 900) => wTwo h (y / 100) (by omega) hl)
  have HY2 := hide (fun W (l : List UInt8) (h : Wr u W l) (hl : l.length ≤ 900) => wTwo h (y % 100) (by omega) hl)
  rw [show ((y / 100 : Nat) : Int) = (y : Int) / 100 by omega] at HY1
  rw [show ((y % 100 : Nat) : Int) = (y : Int) % 100 by omega] at HY2
  have H1 := hide (fun W => digit_any (d / 10) W (by omega))
  have H2 := hide (fun W => digit_any (d % 10) W (by omega))
  rw [show ((d / 10 : Nat) : Int) = (d : Int) / 10 by omega] at H1
  rw [show ((d % 10 : Nat) : Int) = (d : Int) % 10 by omega] at H2
  have hd31 : d ≤ 31 := by omega
  clear d2 d3
  have hfin : ∀ (l0 : List UInt8), l0.length ≤ 901 → (l0 = l ++ (if 10 ≤ d then [dg (d / 10)] else [])) → l0 ++ [dg (d % 10)] ++ [45] ++ (bts (nmL k)).data.toList ++ [45] ++ twoL (y / 100) ++ twoL (y % 100) = l ++ dayT y (k + 1) d := by
    intro l0 _ h0
    rw [h0, toList_bts]
    simp [dayT]
  have HFIN := hide hfin
  clear hfin
  by_cases h10 : 10 ≤ d
  · rw [if_pos h10] at HFIN
    have h10' : 10 ≤ (d : Int) := by omega
    go_enter Tryz.func50, Tryz.ntmps50
    go_wp2_with fail
    refine (unhide HC).mono ?_
    rintro e W1 ⟨v, rfl, hc, hb⟩
    have HW1 := hide ((unhide HW).below hb)
    obtain rfl := civ_known hc (unhide HV).1 (unhide HV).2
    clear hc hb HW HC HV
    go_wp2_with fail
    refine (unhide H1 _).mono ?_
    rintro e _ ⟨rfl, rfl⟩
    go_wp2_with fail
    refine (wByte (unhide HW1) (dg (d / 10)) _ rfl (by omega)).mono ?_
    rintro e W2 ⟨rfl, h⟩
    have HW2 := hide h
    clear h HW1
    go_wp2_with fail
    refine (unhide H2 _).mono ?_
    rintro e _ ⟨rfl, rfl⟩
    go_wp2_with fail
    refine (wByte (unhide HW2) (dg (d % 10)) _ rfl (by first | omega | (simp; omega) | (rw [size_bts, hnl]; omega) | (rw [size_bts, hnl]; simp; omega) | (simp [toList_bts, hnl]; omega) | (simp [toList_bts, hnl, twoL]; omega))).mono ?_
    rintro e W3 ⟨rfl, h⟩
    have HW3 := hide h
    clear h HW2
    go_wp2_with fail
    refine (wByte (unhide HW3) 45 45 rfl (by first | omega | (simp; omega) | (rw [size_bts, hnl]; omega) | (rw [size_bts, hnl]; simp; omega) | (simp [toList_bts, hnl]; omega) | (simp [toList_bts, hnl, twoL]; omega))).mono ?_
    rintro e W4 ⟨rfl, h⟩
    have HW4 := hide h
    clear h HW3
    go_wp2_with fail
    refine (unhide HN _).mono ?_
    rintro e _ ⟨rfl, rfl⟩
    go_wp2_with fail
    refine (wStr (unhide HW4) (bts (nmL k)) (by first | omega | (simp; omega) | (rw [size_bts, hnl]; omega) | (rw [size_bts, hnl]; simp; omega) | (simp [toList_bts, hnl]; omega) | (simp [toList_bts, hnl, twoL]; omega))).mono ?_
    rintro e W5 ⟨rfl, h⟩
    have HW5 := hide h
    clear h HW4
    go_wp2_with fail
    refine (wByte (unhide HW5) 45 45 rfl (by first | omega | (simp; omega) | (rw [size_bts, hnl]; omega) | (rw [size_bts, hnl]; simp; omega) | (simp [toList_bts, hnl]; omega) | (simp [toList_bts, hnl, twoL]; omega))).mono ?_
    rintro e W6 ⟨rfl, h⟩
    have HW6 := hide h
    clear h HW5
    go_wp2_with fail
    refine (unhide HY1 _ _ (unhide HW6) (by first | omega | (simp; omega) | (rw [size_bts, hnl]; omega) | (rw [size_bts, hnl]; simp; omega) | (simp [toList_bts, hnl]; omega) | (simp [toList_bts, hnl, twoL]; omega))).mono ?_
    rintro e W7 ⟨rfl, h⟩
    have HW7 := hide h
    clear h HW6
    go_wp2_with fail
    refine (unhide HY2 _ _ (unhide HW7) (by first | omega | (simp; omega) | (rw [size_bts, hnl]; omega) | (rw [size_bts, hnl]; simp; omega) | (simp [toList_bts, hnl]; omega) | (simp [toList_bts, hnl, twoL]; omega))).mono ?_
    rintro e W8 ⟨rfl, h⟩
    go_wp2
    go_end0
    exact ⟨rfl, by rw [unhide HFIN (l ++ [dg (d / 10)]) (by simp; omega) rfl] at h; exact h⟩
  · rw [if_neg h10] at HFIN
    have h10' : ¬ 10 ≤ (d : Int) := by omega
    go_enter Tryz.func50, Tryz.ntmps50
    go_wp2_with fail
    refine (unhide HC).mono ?_
    rintro e W1 ⟨v, rfl, hc, hb⟩
    have HW1 := hide ((unhide HW).below hb)
    obtain rfl := civ_known hc (unhide HV).1 (unhide HV).2
    clear hc hb HW HC HV
    have HW2 := HW1
    clear HW1
    go_wp2_with fail
    refine (unhide H2 _).mono ?_
    rintro e _ ⟨rfl, rfl⟩
    go_wp2_with fail
    refine (wByte (unhide HW2) (dg (d % 10)) _ rfl (by first | omega | (simp; omega) | (rw [size_bts, hnl]; omega) | (rw [size_bts, hnl]; simp; omega) | (simp [toList_bts, hnl]; omega) | (simp [toList_bts, hnl, twoL]; omega))).mono ?_
    rintro e W3 ⟨rfl, h⟩
    have HW3 := hide h
    clear h HW2
    go_wp2_with fail
    refine (wByte (unhide HW3) 45 45 rfl (by first | omega | (simp; omega) | (rw [size_bts, hnl]; omega) | (rw [size_bts, hnl]; simp; omega) | (simp [toList_bts, hnl]; omega) | (simp [toList_bts, hnl, twoL]; omega))).mono ?_
    rintro e W4 ⟨rfl, h⟩
    have HW4 := hide h
    clear h HW3
    go_wp2_with fail
    refine (unhide HN _).mono ?_
    rintro e _ ⟨rfl, rfl⟩
    go_wp2_with fail
    refine (wStr (unhide HW4) (bts (nmL k)) (by first | omega | (simp; omega) | (rw [size_bts, hnl]; omega) | (rw [size_bts, hnl]; simp; omega) | (simp [toList_bts, hnl]; omega) | (simp [toList_bts, hnl, twoL]; omega))).mono ?_
    rintro e W5 ⟨rfl, h⟩
    have HW5 := hide h
    clear h HW4
    go_wp2_with fail
    refine (wByte (unhide HW5) 45 45 rfl (by first | omega | (simp; omega) | (rw [size_bts, hnl]; omega) | (rw [size_bts, hnl]; simp; omega) | (simp [toList_bts, hnl]; omega) | (simp [toList_bts, hnl, twoL]; omega))).mono ?_
    rintro e W6 ⟨rfl, h⟩
    have HW6 := hide h
    clear h HW5
    go_wp2_with fail
    refine (unhide HY1 _ _ (unhide HW6) (by first | omega | (simp; omega) | (rw [size_bts, hnl]; omega) | (rw [size_bts, hnl]; simp; omega) | (simp [toList_bts, hnl]; omega) | (simp [toList_bts, hnl, twoL]; omega))).mono ?_
    rintro e W7 ⟨rfl, h⟩
    have HW7 := hide h
    clear h HW6
    go_wp2_with fail
    refine (unhide HY2 _ _ (unhide HW7) (by first | omega | (simp; omega) | (rw [size_bts, hnl]; omega) | (rw [size_bts, hnl]; simp; omega) | (simp [toList_bts, hnl]; omega) | (simp [toList_bts, hnl, twoL]; omega))).mono ?_
    rintro e W8 ⟨rfl, h⟩
    go_wp2
    go_end0
    exact ⟨rfl, by rw [unhide HFIN l (by omega) (by simp)] at h; exact h⟩

end Go.Proofs.YtdallfakfhajdaaGreatDoor

/-
  What date.Write, isRight and WriteTime do, over this seat's program.
-/
set_option linter.unusedVariables false
namespace Go.Proofs.YtdallfakfhajdaaGreatDoor
open Go.RowKit Go.Proofs.Dcl

theorem find_step (f : Nat → Int) (r : Int) (h1 : f 1 ≤ r) (j : Nat) : (∃ m, 1 ≤ m ∧ m ≤ j ∧ f m ≤ r ∧ r < f (m + 1)) ∨ f (j + 1) ≤ r := by
  induction j with
  | zero => exact .inr h1
  | succ j ih =>
    rcases ih with ⟨m, a, b, c, d⟩ | h
    · exact .inl ⟨m, a, by omega, c, d⟩
    · by_cases hr : f (j + 1 + 1) ≤ r
      · exact .inr hr
      · exact .inl ⟨j + 1, by omega, by omega, h, by omega⟩

/-- A number that is a day's has its day. -/
theorem day_exists {n : Int} (h : dayB n = true) : ∃ y m d : Nat, vldB y m d = true ∧ num y m d = n := by
  obtain ⟨a, b⟩ := dayB_t h
  obtain ⟨c, _, c1, hlo, hup⟩ := year_of n a b
  obtain ⟨Y, hY⟩ : ∃ Y : Nat, (Y : Int) = 1 + (c : Int) := ⟨1 + c, by omega⟩
  rw [← hY] at hlo hup
  have hs := ahd_succ Y
  rcases find_step (fun m => cum Y m) (n + 719162 - ahd Y) (by rw [show ((1 : Nat) : Int) = 1 from rfl, cum_one]; omega) 12 with ⟨m, m1, m2, ha, hb⟩ | hbad
  · have hcs := cum_succ Y m (by omega) (by omega)
    rw [show ((m + 1 : Nat) : Int) = (m : Int) + 1 by omega, hcs] at hb
    refine ⟨Y, m, (n + 719162 - ahd Y - cum Y m + 1).toNat, ?_, ?_⟩
    · rw [show (((n + 719162 - ahd Y - cum Y m + 1).toNat : Nat) : Int) = n + 719162 - ahd Y - cum Y m + 1 by omega]
      exact vld_of n Y m (by omega) (by omega) (by omega) (by omega) (by omega) (by omega)
    · rw [show (((n + 719162 - ahd Y - cum Y m + 1).toNat : Nat) : Int) = n + 719162 - ahd Y - cum Y m + 1 by omega]
      exact num_of n Y m
  · have := cum_13 Y
    have e : cum (Y : Int) ((12 + 1 : Nat) : Int) = cum Y 13 := rfl
    omega

set_option maxHeartbeats 1000000 in
theorem write_no (n : Int) (w : World) (h : dayB n = false) :
    Calls Tryz.prog 21 #[.int .i64 n] w fun e w' => e = .returned (.tuple #[.string (bts []), .int .i64 1]) ∧ w' = w := by
  have HI := fun W => isDay_any n W
  rw [h] at HI
  go_enter Tryz.func21, Tryz.ntmps21
  go_wp2_with (go_at_call 49; refine (HI _).mono ?_; rintro e w' ⟨rfl, rfl⟩)
  go_ret2
  exact ⟨rfl, rfl⟩

set_option maxHeartbeats 1000000 in
theorem write_yes (y m d : Nat) (n : Int) (w : World) (ht : LTab w) (hv : vldB y m d = true) (hn : num y m d = n) :
    Calls Tryz.prog 21 #[.int .i64 n] w fun e w' => e = .returned (.tuple #[.string (bts (dayT y m d)), .int .i64 0]) ∧ Below w.heap.size w w' := by
  have HI := fun W => isDay_any n W
  rw [← hn, day_of_vld hv, hn] at HI
  have HD := hide (wDay (Wr.new w) ht y m d hv n hn (by simp))
  rw [List.nil_append] at HD
  clear hv hn ht
  go_enter Tryz.func21, Tryz.ntmps21
  go_wp2_with (go_at_call 49; refine (HI _).mono ?_; rintro e w' ⟨rfl, rfl⟩)
  refine (unhide HD).mono ?_
  rintro e W1 ⟨rfl, h⟩
  have HS := hide (Tryz.Builder_String_any_f _ _ _ W1 h.isb h.bel.size)
  have HB := hide h.bel
  clear h HD
  go_wp2_with fail
  refine (unhide HS).mono ?_
  rintro e W2 ⟨rfl, _, hb⟩
  have HB2 := hide ((unhide HB).trans hb)
  clear hb HS
  go_wp2
  go_ret2
  exact ⟨rfl, unhide HB2⟩

def rightB (d s z : Int) : Bool := dayB d && decide (0 ≤ s ∧ s ≤ 86399 ∧ -5999 ≤ z ∧ z ≤ 5999)

end Go.Proofs.YtdallfakfhajdaaGreatDoor

/-
  A day that is written, with spaces for its dashes, as a mail's Date: plain mathematics, and what IndexAny tells of its pieces.
-/
set_option linter.unusedVariables false
namespace Go.Proofs.YtdallfakfhajdaaGreatDoor
open Go.RowKit Go.Proofs.Dcl

theorem dg_dig (n : Nat) (h : n < 10) : digB (dg n) = true := by unfold digB; rw [dg_nat n h]; simp; omega
theorem numA_dg (n acc : Nat) (r : List UInt8) (h : n < 10) : numA acc (dg n :: r) = numA (acc * 10 + n) r := by
  conv => lhs; unfold numA
  rw [dg_dig n h, dg_nat n h]
  simp only [if_true]
  rw [show 48 + n - 48 = n by omega]
theorem num_two (n : Nat) (h : n < 100) : numR (twoL n) 2 2 = some n := by
  unfold numR twoL
  rw [if_neg (by simp), numA_dg _ _ _ (by omega), numA_dg _ _ _ (by omega)]
  simp [numA]; omega
theorem num_four (y : Nat) (h : y < 10000) : numR (twoL (y / 100) ++ twoL (y % 100)) 4 4 = some y := by
  unfold numR twoL
  rw [if_neg (by simp)]
  simp only [List.cons_append, List.nil_append]
  rw [numA_dg _ _ _ (by omega), numA_dg _ _ _ (by omega), numA_dg _ _ _ (by omega), numA_dg _ _ _ (by omega)]
  simp [numA]; omega
theorem num_four' (y : Nat) (h : y < 10000) : numR (twoL (y / 100) ++ twoL (y % 100)) 2 4 = some y := by
  have := num_four y h
  unfold numR at *
  rw [if_neg (by simp [twoL])] at this ⊢
  exact this
theorem mon_name (k : Nat) (h : k < 12) : monR (nmL k) = k + 1 := by
  have : k = 0 ∨ k = 1 ∨ k = 2 ∨ k = 3 ∨ k = 4 ∨ k = 5 ∨ k = 6 ∨ k = 7 ∨ k = 8 ∨ k = 9 ∨ k = 10 ∨ k = 11 := by omega
  rcases this with rfl | rfl | rfl | rfl | rfl | rfl | rfl | rfl | rfl | rfl | rfl | rfl <;> decide +kernel
theorem num_one (d : Nat) (h : d < 10) : numR [dg d] 1 1 = some d := by
  unfold numR
  rw [if_neg (by simp), numA_dg _ _ _ h]
  simp [numA]
theorem dg_ne (n : Nat) (c : UInt8) (h : n < 10) (hc : c.toNat < 48 ∨ 57 < c.toNat) : dg n ≠ c := by
  intro e
  have := dg_nat n h
  rw [e] at this
  omega
def dsh (c : UInt8) : UInt8 := if c = 45 then 32 else c
theorem index_word (ds r : List UInt8) (h : ∀ c ∈ ds, blB c = false) : Lib.indexAny (ds ++ 32 :: r) [32, 9] = ds.length := by
  induction ds with
  | nil => simp [Lib.indexAny]
  | cons c t ih =>
    have hc := h c (by simp)
    have ht := ih (fun x hx => h x (by simp [hx]))
    simp only [List.cons_append, Lib.indexAny]
    unfold blB at hc
    rw [hc, ht]
    simp only [Bool.false_eq_true, if_false, List.length_cons]
    rw [if_neg (by simp <;> omega)]
    omega
theorem word_of (ds r : List UInt8) (h : ∀ c ∈ ds, blB c = false) (h0 : ds ≠ []) : wordR (32 :: (ds ++ 32 :: r)) = (ds, 32 :: r) := by
  have hdw : (32 :: (ds ++ 32 :: r)).dropWhile blB = ds ++ 32 :: r := by
    rw [List.dropWhile_cons_of_pos (by decide)]
    cases ds with
    | nil => exact absurd rfl h0
    | cons c t => rw [List.cons_append, List.dropWhile_cons_of_neg (by rw [h c (by simp)]; simp)]
  unfold wordR
  rw [hdw]
  have hn : wordN (ds ++ 32 :: r) = ds.length := by
    unfold wordN
    rw [index_word ds r h, if_neg (by omega)]
    omega
  rw [hn, List.take_left', List.drop_left']
  · rfl
  · rfl
theorem dg_bl (n : Nat) (h : n < 10) : blB (dg n) = false := by
  have h1 := dg_ne n 32 h (by decide)
  have h2 := dg_ne n 9 h (by decide)
  unfold blB
  simp [h1, h2]
theorem dsh_dg (n : Nat) (h : n < 10) : dsh (dg n) = dg n := by unfold dsh; rw [if_neg (dg_ne n 45 h (by decide))]
theorem dsh_two (n : Nat) (h : n < 100) : (twoL n).map dsh = twoL n := by simp [twoL, dsh_dg (n / 10) (by omega), dsh_dg (n % 10) (by omega)]
theorem two_bl (n : Nat) (h : n < 100) : ∀ c ∈ twoL n, blB c = false := by
  intro c hc
  simp only [twoL, List.mem_cons, List.not_mem_nil, or_false] at hc
  rcases hc with rfl | rfl
  · exact dg_bl _ (by omega)
  · exact dg_bl _ (by omega)
theorem name_map (k : Nat) (h : k < 12) : (nmL k).map dsh = nmL k ∧ (∀ c ∈ nmL k, blB c = false) ∧ ∀ c ∈ nmL k, c.toNat < 128 := by
  have : k = 0 ∨ k = 1 ∨ k = 2 ∨ k = 3 ∨ k = 4 ∨ k = 5 ∨ k = 6 ∨ k = 7 ∨ k = 8 ∨ k = 9 ∨ k = 10 ∨ k = 11 := by omega
  rcases this with rfl | rfl | rfl | rfl | rfl | rfl | rfl | rfl | rfl | rfl | rfl | rfl <;> decide +kernel
theorem day_map (y m d : Nat) (hv : vldB y m d = true) : (dayT y m d).map dsh = (if 10 ≤ d then twoL d else [dg d]) ++ 32 :: (nmL (m - 1) ++ 32 :: (twoL (y / 100) ++ twoL (y % 100))) := by
  obtain ⟨y1, y2, m1, m2, d1, d2⟩ := vld_iff.1 hv
  have d3 := dim_le y m
  unfold dayT
  simp only [List.map_append, (name_map (m - 1) (by omega)).1, dsh_two (y / 100) (by omega), dsh_two (y % 100) (by omega), List.map_cons, List.map_nil]
  rw [dsh_dg (d % 10) (by omega), show dsh 45 = 32 from rfl]
  by_cases h : 10 ≤ d
  · rw [if_pos h, if_pos h]
    simp only [List.map_cons, List.map_nil, dsh_dg (d / 10) (by omega : d / 10 < 10)]
    simp [twoL]
  · rw [if_neg h, if_neg h, show d % 10 = d by omega]
    simp
theorem index_end (ds : List UInt8) (h : ∀ c ∈ ds, blB c = false) : Lib.indexAny ds [32, 9] = -1 := by
  induction ds with
  | nil => rfl
  | cons c t ih =>
    have hc := h c (by simp)
    have ht := ih (fun x hx => h x (by simp [hx]))
    simp only [Lib.indexAny]
    unfold blB at hc
    rw [hc, ht]
    simp
theorem word_end (ds : List UInt8) (h : ∀ c ∈ ds, blB c = false) (h0 : ds ≠ []) : wordR (32 :: ds) = (ds, []) := by
  have hdw : (32 :: ds).dropWhile blB = ds := by
    rw [List.dropWhile_cons_of_pos (by decide)]
    cases ds with
    | nil => exact absurd rfl h0
    | cons c t => rw [List.dropWhile_cons_of_neg (by rw [h c (by simp)]; simp)]
  unfold wordR
  rw [hdw]
  have hn : wordN ds = ds.length := by
    unfold wordN
    rw [index_end ds h, if_pos (by omega)]
  rw [hn, List.take_length, List.drop_length]
/-- A day that is written, as a mail's Date. -/
theorem mail_day2 (y m d : Nat) (hv : vldB y m d = true) : mailR ([120, 44, 32] ++ (dayT y m d).map dsh) = some (num y m d) := by
  obtain ⟨y1, y2, m1, m2, d1, d2⟩ := vld_iff.1 hv
  have d3 := dim_le y m
  have hm : m - 1 < 12 := by omega
  obtain ⟨_, hnb, _⟩ := name_map (m - 1) hm
  have hmon := mon_name (m - 1) hm
  rw [show m - 1 + 1 = m by omega] at hmon
  have hc : commaR ([120, 44, 32] ++ (dayT y m d).map dsh) = 32 :: ((if 10 ≤ d then twoL d else [dg d]) ++ 32 :: (nmL (m - 1) ++ 32 :: (twoL (y / 100) ++ twoL (y % 100)))) := by
    rw [day_map y m d hv]
    unfold commaR
    simp [cutAt]
  have hnum : numR (if 10 ≤ d then twoL d else [dg d]) 1 2 = some d := by
    by_cases h : 10 ≤ d
    · rw [if_pos h]
      have := num_two d (by omega)
      unfold numR at *
      rw [if_neg (by simp [twoL])] at this ⊢
      exact this
    · rw [if_neg h]
      have := num_one d (by omega)
      unfold numR at *
      rw [if_neg (by simp)] at this ⊢
      exact this
  have hdb : ∀ c ∈ (if 10 ≤ d then twoL d else [dg d]), blB c = false := by
    by_cases h : 10 ≤ d
    · rw [if_pos h]; exact two_bl d (by omega)
    · rw [if_neg h]
      intro c hc
      simp only [List.mem_cons, List.not_mem_nil, or_false] at hc
      subst hc
      exact dg_bl d (by omega)
  have hd0 : (if 10 ≤ d then twoL d else [dg d]) ≠ [] := by split <;> simp [twoL]
  have hn0 : nmL (m - 1) ≠ [] := by
    intro e
    have := nmL_len (m - 1) hm
    rw [e] at this
    cases this
  have hyb : ∀ c ∈ twoL (y / 100) ++ twoL (y % 100), blB c = false := by
    intro c hc
    rcases List.mem_append.1 hc with h | h
    · exact two_bl _ (by omega) c h
    · exact two_bl _ (by omega) c h
  have hfull : fullR y (twoL (y / 100) ++ twoL (y % 100)).length = y := by simp [fullR, twoL]
  unfold mailR
  rw [hc, word_of _ _ hdb hd0]
  unfold ml1
  simp only [hnum]
  rw [word_of _ _ hnb hn0]
  unfold ml2
  simp only [hmon]
  rw [if_neg (by omega), word_end _ hyb (by simp [twoL])]
  unfold ml3
  simp only [num_four' y (by omega), hfull, hv, if_true]

/-- All of it is ASCII. -/
theorem day_ascii2 (y m d : Nat) (hv : vldB y m d = true) : ([120, 44, 32] ++ (dayT y m d).map dsh).all (fun b => decide (b.toNat < 128)) = true := by
  obtain ⟨y1, y2, m1, m2, d1, d2⟩ := vld_iff.1 hv
  have d3 := dim_le y m
  rw [day_map y m d hv, List.all_eq_true]
  have hdg : ∀ n, n < 10 → (dg n).toNat < 128 := fun n h => by rw [dg_nat n h]; omega
  have htw : ∀ n, n < 100 → ∀ c ∈ twoL n, c.toNat < 128 := by
    intro n hn c hc
    simp only [twoL, List.mem_cons, List.not_mem_nil, or_false] at hc
    rcases hc with rfl | rfl
    · exact hdg _ (by omega)
    · exact hdg _ (by omega)
  have hnm := (name_map (m - 1) (by omega)).2.2
  intro c hc
  rw [decide_eq_true_eq]
  simp only [List.mem_append, List.mem_cons, List.not_mem_nil, or_false] at hc
  rcases hc with (rfl | rfl | rfl) | h | rfl | h | rfl | h | h <;> first | decide | skip
  · split at h
    · exact htw d (by omega) c h
    · simp only [List.mem_cons, List.not_mem_nil, or_false] at h
      subst h; exact hdg d (by omega)
  · exact hnm c h
  · exact htw _ (by omega) c h
  · exact htw _ (by omega) c h

theorem dayT_len (y m d : Nat) (h1 : 1 ≤ m) (h2 : m ≤ 12) : (dayT y m d).length = if 10 ≤ d then 11 else 10 := by
  have := nmL_len (m - 1) (by omega)
  unfold dayT
  split <;> simp [this, twoL]
theorem ix_all2 (l : List UInt8) (h : l.all (fun b => decide (b.toNat < 128)) = true) (hl : l.length ≤ 4294967280) : ∀ t, t <:+ l → IxAny t := fun t ht =>
  ixAny_ascii t (fun c hc => of_decide_eq_true (List.all_eq_true.1 h c (ht.subset hc))) (by have := ht.length_le; omega)
end Go.Proofs.YtdallfakfhajdaaGreatDoor
