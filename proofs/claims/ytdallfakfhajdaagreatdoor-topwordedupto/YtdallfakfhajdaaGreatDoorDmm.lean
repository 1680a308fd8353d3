/-
  What date.Mail does, over this seat's program.
-/
import Derived.Test.YtdallfakfhajdaaGreatDoorDml
set_option linter.unusedVariables false
namespace Go.Proofs.YtdallfakfhajdaaGreatDoor
open Go.RowKit Go.Proofs.Dcl

/-- What is behind the first comma, if there is one. -/
def commaR (l : List UInt8) : List UInt8 := match cutAt 44 l with
  | some p => p.2
  | none => l
def ml3 (d m : Nat) (w : List UInt8) : Option Int := match numR w 2 4 with
  | none => none
  | some y => if vldB (fullR y w.length) m d then some (num (fullR y w.length) m d) else none
def ml2 (d : Nat) (p : List UInt8 × List UInt8) : Option Int := if monR p.1 = 0 then none else ml3 d (monR p.1) (wordR p.2).1
def ml1 (p : List UInt8 × List UInt8) : Option Int := match numR p.1 1 2 with
  | none => none
  | some d => ml2 d (wordR p.2)
/-- The day of a mail's Date. -/
def mailR (l : List UInt8) : Option Int := ml1 (wordR (commaR l))

theorem comma_suffix (l : List UInt8) : commaR l <:+ l := by
  unfold commaR
  have := index_cut 44 l
  cases h : cutAt 44 l with
  | none => exact List.suffix_refl _
  | some p =>
    rw [h] at this
    obtain ⟨_, h2⟩ := this
    exact ⟨p.1 ++ [44], by rw [List.append_assoc]; exact h2.symm⟩
theorem word_suffix (l : List UInt8) : (wordR l).2 <:+ l := (List.drop_suffix _ _).trans (List.dropWhile_suffix _)

theorem numR_le {l : List UInt8} {a b n : Nat} (h : numR l a b = some n) : l.length ≤ b ∧ n < 10 ^ b := by
  unfold numR at h
  split at h
  · cases h
  · rename_i hlen
    have hl : l.length ≤ b := by omega
    have := numA_bound l 0 n h
    have h2 : (10 : Nat) ^ l.length ≤ 10 ^ b := Nat.pow_le_pow_right (by omega) hl
    exact ⟨hl, by omega⟩

/-- A mail's Date at work. -/
structure MT (w W : World) (l : List UInt8) : Prop where
  mom : Mom W w.heap.size 0 0 0 (bts l)
  bel : Below w.heap.size w W
  len : l.length ≤ 140737488355328
  ix : ∀ t, t <:+ l → IxAny t

theorem mWord {w W : World} {l : List UInt8} (h : MT w W l) :
    Calls Tryz.prog 62 #[.pointer (some ⟨w.heap.size, 0, none⟩)] W fun e w' => e = .returned (.string (bts (wordR l).1)) ∧ MT w w' (wordR l).2 := by
  refine (takeWord_any w.heap.size 0 0 0 l W h.mom (by have := h.len; omega) (h.ix _ (List.dropWhile_suffix _))).mono ?_
  rintro e w' ⟨rfl, h1, h2⟩
  exact ⟨rfl, h1, h.bel.trans h2, by have := wordR_len l; have := h.len; omega, fun t ht => h.ix t (ht.trans (word_suffix l))⟩

def JMl (w : World) (L : List UInt8) (a' : Act) (w' : World) : Prop :=
  ∃ u : Nat → Value, a' = { tmps := #[u 0, u 1, u 2, u 3, u 4, u 5, u 6, u 7, u 8, u 9, u 10, u 11, u 12, u 13, u 14, u 15, u 16, u 17, u 18, u 19, u 20, u 21, u 22, u 23, u 24, u 25, u 26, u 27, u 28, u 29, u 30, u 31, u 32, u 33, u 34, u 35, u 36, u 37, u 38, u 39, u 40, u 41, u 42, u 43, u 44, u 45, u 46, u 47, u 48, u 49, u 50, u 51, u 52, u 53, u 54, u 55, u 56, u 57, u 58, u 59, u 60], defers := [] } ∧ Hid (mailR L = none) ∧ Hid (Below w.heap.size w w')
theorem JMl.mk {w : World} {L : List UInt8} {a' : Act} {w' : World} (ha : a' = { tmps := #[a'.tmps.getD 0 undef, a'.tmps.getD 1 undef, a'.tmps.getD 2 undef, a'.tmps.getD 3 undef, a'.tmps.getD 4 undef, a'.tmps.getD 5 undef, a'.tmps.getD 6 undef, a'.tmps.getD 7 undef, a'.tmps.getD 8 undef, a'.tmps.getD 9 undef, a'.tmps.getD 10 undef, a'.tmps.getD 11 undef, a'.tmps.getD 12 undef, a'.tmps.getD 13 undef, a'.tmps.getD 14 undef, a'.tmps.getD 15 undef, a'.tmps.getD 16 undef, a'.tmps.getD 17 undef, a'.tmps.getD 18 undef, a'.tmps.getD 19 undef, a'.tmps.getD 20 undef, a'.tmps.getD 21 undef, a'.tmps.getD 22 undef, a'.tmps.getD 23 undef, a'.tmps.getD 24 undef, a'.tmps.getD 25 undef, a'.tmps.getD 26 undef, a'.tmps.getD 27 undef, a'.tmps.getD 28 undef, a'.tmps.getD 29 undef, a'.tmps.getD 30 undef, a'.tmps.getD 31 undef, a'.tmps.getD 32 undef, a'.tmps.getD 33 undef, a'.tmps.getD 34 undef, a'.tmps.getD 35 undef, a'.tmps.getD 36 undef, a'.tmps.getD 37 undef, a'.tmps.getD 38 undef, a'.tmps.getD 39 undef, a'.tmps.getD 40 undef, a'.tmps.getD 41 undef, a'.tmps.getD 42 undef, a'.tmps.getD 43 undef, a'.tmps.getD 44 undef, a'.tmps.getD 45 undef, a'.tmps.getD 46 undef, a'.tmps.getD 47 undef, a'.tmps.getD 48 undef, a'.tmps.getD 49 undef, a'.tmps.getD 50 undef, a'.tmps.getD 51 undef, a'.tmps.getD 52 undef, a'.tmps.getD 53 undef, a'.tmps.getD 54 undef, a'.tmps.getD 55 undef, a'.tmps.getD 56 undef, a'.tmps.getD 57 undef, a'.tmps.getD 58 undef, a'.tmps.getD 59 undef, a'.tmps.getD 60 undef], defers := [] }) (h : mailR L = none) (hp : Below w.heap.size w w') : JMl w L a' w' :=
  ⟨fun i => a'.tmps.getD i undef, ha, h, hp⟩

set_option maxHeartbeats 4000000 in
set_option maxRecDepth 100000 in
theorem mail_any (L : List UInt8) (w : World) (ht : LTab w) (hs : L.length ≤ 140737488355328) (hx : ∀ t, t <:+ L → IxAny t) :
    Calls Tryz.prog 25 #[.string (bts L)] w fun e w' => e = .returned (numV (mailR L) 7) ∧ Below w.heap.size w w' := by
  have hm0 := mom_new w (bts L)
  have hb0 : Below w.heap.size w (w.alloc (.cells #[.int .i64 0, .int .i64 0, .int .i64 0, .string (bts L)] 94)) := (Below.refl _ w).alloc (Nat.le_refl _) _
  have HC := hide (fun W => cut1_any 44 (bts L) W (by rw [size_bts]; omega))
  rw [toList_bts] at HC
  have HTB := hide ht
  have HM0 := hide hm0
  have HB0 := hide hb0
  have HIX := hide hx
  clear hm0 hb0 hx ht
  go_enter Tryz.func25, Tryz.ntmps25
  go_wp2_with fail
  refine wp_scope_out 0 (JMl w L) (by rfl) ?_ ?_
  · go_wp2_with fail
    refine (unhide HC _).mono ?_
    clear HC
    rintro e W ⟨rfl, q, rfl⟩
    have hcm := comma_suffix L
    have HX0 : Hid (mailR L = ml1 (wordR (commaR L))) := hide rfl
    unfold commaR at hcm HX0
    cases hc : cutAt 44 L with
    | none =>
      rw [hc] at hcm HX0
      simp only at hcm HX0
      have HP : Hid (MT w ((w.alloc (.cells #[.int .i64 0, .int .i64 0, .int .i64 0, .string (bts L)] 94)).drewN q) L) := hide ⟨unhide HM0, drewB (unhide HB0) q, hs, unhide HIX⟩
      clear HM0 HB0 HIX hc hcm
      generalize (w.alloc (.cells #[.int .i64 0, .int .i64 0, .int .i64 0, .string (bts L)] 94)).drewN q = W0 at HP ⊢
      obtain ⟨l0, hl0⟩ : ∃ l0, l0 = L := ⟨_, rfl⟩
      rw [← hl0] at HP
      rw [show wordR L = wordR l0 by rw [hl0]] at HX0
      clear hl0
      go_wp2_with fail
      refine (mWord (unhide HP)).mono ?_
      clear HP
      rintro e W1 ⟨rfl, hp⟩
      obtain ⟨x1, l1, hw1⟩ : ∃ x1 l1, wordR l0 = (x1, l1) := ⟨_, _, rfl⟩
      rw [hw1] at HX0 hp
      simp only [hw1]
      simp only at hp
      have HP := hide hp
      clear hp hw1
      have HN1 := hide (number_any (bts x1) 1 2 W1 (by omega) (by omega))
      rw [toList_bts] at HN1
      go_wp2_with fail
      refine (unhide HN1).mono ?_
      clear HN1
      rintro e W1 ⟨rfl, rfl⟩
      cases hn : numR x1 1 2 with
      | none =>
        simp only [optV]
        have HN : Hid (mailR L = none) := hide (by rw [unhide HX0]; unfold ml1; simp only [hn])
        have HF := hide (unhide HP).bel
        clear HP
        go_wp2
        refine wp_goto ?_
        exact ⟨rfl, JMl.mk rfl (unhide HN) (unhide HF)⟩
      | some d =>
        simp only [optV]
        have HX1 : Hid (mailR L = ml2 d (wordR l1)) := hide (by rw [unhide HX0]; unfold ml1; simp only [hn])
        clear hn HX0
        have hl1 := (unhide HP).len
        go_wp2_with fail
        refine (mWord (unhide HP)).mono ?_
        clear HP
        rintro e W2 ⟨rfl, hp⟩
        obtain ⟨x2, l2, hw2⟩ : ∃ x2 l2, wordR l1 = (x2, l2) := ⟨_, _, rfl⟩
        have hxl : x2.length ≤ l1.length := by have := (wordR_len l1).1; rw [hw2] at this; exact this
        rw [hw2] at HX1 hp
        simp only [hw2]
        simp only at hp
        have HL2 := hide hp.len
        have HP := hide hp
        clear hp hw2
        have HN1 := hide (monthOf_any (bts x2) W2 (by rw [size_bts]; omega))
        rw [toList_bts] at HN1
        go_wp2_with fail
        refine (unhide HN1).mono ?_
        clear HN1
        rintro e _ ⟨rfl, q2, rfl⟩
        have HP2 : Hid (MT w (W2.drewN q2) l2) := hide ⟨(unhide HP).mom.drew q2, drewB (unhide HP).bel q2, (unhide HP).len, (unhide HP).ix⟩
        clear HP
        have HP := HP2
        clear HP2
        generalize W2.drewN q2 = W3 at HP ⊢
        have hmle := monR_le x2
        have HX2 : Hid (mailR L = if monR x2 = 0 then none else ml3 d (monR x2) (wordR l2).1) := HX1
        clear HX1 hxl hl1
        generalize monR x2 = m at HX2 hmle ⊢
        by_cases hm0 : m = 0
        · subst hm0
          simp only [monV, if_true]
          have HN : Hid (mailR L = none) := hide (by rw [unhide HX2, if_pos rfl])
          have HF := hide (unhide HP).bel
          clear HP
          go_wp2
          refine wp_goto ?_
          exact ⟨rfl, JMl.mk rfl (unhide HN) (unhide HF)⟩
        rw [if_neg hm0] at HX2
        rw [show monV m = .tuple #[.int .i64 (m : Int), .bool true] by simp [monV, hm0]]
        go_wp2_with fail
        refine (mWord (unhide HP)).mono ?_
        clear HP
        rintro e W4 ⟨rfl, hp⟩
        obtain ⟨x3, l3, hw3⟩ : ∃ x3 l3, wordR l2 = (x3, l3) := ⟨_, _, rfl⟩
        rw [hw3] at HX2 hp
        simp only [hw3]
        simp only at hp
        have HP := hide hp
        clear hp hw3
        have HN1 := hide (number_any (bts x3) 2 4 W4 (by omega) (by omega))
        rw [toList_bts] at HN1
        go_wp2_with fail
        refine (unhide HN1).mono ?_
        clear HN1
        rintro e W4 ⟨rfl, rfl⟩
        cases hn : numR x3 2 4 with
        | none =>
          simp only [optV]
          have HN : Hid (mailR L = none) := hide (by rw [unhide HX2]; unfold ml3; simp only [hn])
          have HF := hide (unhide HP).bel
          clear HP
          go_wp2
          refine wp_goto ?_
          exact ⟨rfl, JMl.mk rfl (unhide HN) (unhide HF)⟩
        | some y =>
          simp only [optV]
          obtain ⟨hl4, hy4⟩ := numR_le hn
          have HX3 : Hid (mailR L = if vldB (fullR y x3.length) m d then some (num (fullR y x3.length) m d) else none) := hide (by rw [unhide HX2]; unfold ml3; simp only [hn])
          clear hn HX2
          have hsz : (bts x3).size = x3.length := size_bts x3
          have HFY := hide (fun W => fullYear_any y x3.length W (by omega) (by omega))
          go_wp2_with fail
          refine (unhide HFY _).mono ?_
          clear HFY
          rintro e W4 ⟨rfl, rfl⟩
          generalize fullR y x3.length = Y at HX3 ⊢
          have HD := hide (day_any (Y : Int) (m : Int) (d : Int) _ ((unhide HTB).below (unhide HP).bel))
          go_wp2_with fail
          refine (unhide HD).mono ?_
          clear HD
          rintro e W4 ⟨rfl, rfl⟩
          cases hv : vldB (Y : Int) (m : Int) (d : Int)
          · rw [dayV_f hv]
            rw [hv] at HX3
            clear hv
            have HN : Hid (mailR L = none) := hide (by rw [unhide HX3]; rfl)
            have HF := hide (unhide HP).bel
            clear HP
            go_wp2
            refine wp_goto ?_
            exact ⟨rfl, JMl.mk rfl (unhide HN) (unhide HF)⟩
          · rw [dayV_t hv]
            rw [hv] at HX3
            clear hv
            have HN : Hid (mailR L = some (num Y m d)) := hide (by rw [unhide HX3]; rfl)
            have HF := hide (unhide HP).bel
            clear HP HX3
            go_wp2
            (try simp only [Exit.inBlock, Exit.then])
            (try simp only [Exit.jump])
            go_ret2
            exact ⟨by rw [unhide HN]; rfl, unhide HF⟩
    | some p =>
      obtain ⟨pn, l0⟩ := p
      rw [hc] at hcm HX0
      simp only at hcm HX0
      have f3 := Blk.frozen (unhide HM0) 3
      have c3 : (w.alloc (.cells #[.int .i64 0, .int .i64 0, .int .i64 0, .string (bts L)] 94)).cell? ⟨w.heap.size, 3, none⟩ = some (.string (bts L)) := (Blk.cell (unhide HM0) 3).trans rfl
      have HP : Hid (MT w (((w.alloc (.cells #[.int .i64 0, .int .i64 0, .int .i64 0, .string (bts L)] 94)).drewN q).setCell ⟨w.heap.size, 3, none⟩ (.string (bts l0))) l0) := hide ⟨((unhide HM0).drew q).left _, setB (drewB (unhide HB0) q) 3 _, by have := hcm.length_le; omega, fun t h => unhide HIX t (h.trans hcm)⟩
      clear HM0 HB0 HIX hc hcm
      go_wp2_with fail
      generalize ((w.alloc (.cells #[.int .i64 0, .int .i64 0, .int .i64 0, .string (bts L)] 94)).drewN q).setCell ⟨w.heap.size, 3, none⟩ (.string (bts l0)) = W0 at HP ⊢
      clear f3 c3
      refine (mWord (unhide HP)).mono ?_
      clear HP
      rintro e W1 ⟨rfl, hp⟩
      obtain ⟨x1, l1, hw1⟩ : ∃ x1 l1, wordR l0 = (x1, l1) := ⟨_, _, rfl⟩
      rw [hw1] at HX0 hp
      simp only [hw1]
      simp only at hp
      have HP := hide hp
      clear hp hw1
      have HN1 := hide (number_any (bts x1) 1 2 W1 (by omega) (by omega))
      rw [toList_bts] at HN1
      go_wp2_with fail
      refine (unhide HN1).mono ?_
      clear HN1
      rintro e W1 ⟨rfl, rfl⟩
      cases hn : numR x1 1 2 with
      | none =>
        simp only [optV]
        have HN : Hid (mailR L = none) := hide (by rw [unhide HX0]; unfold ml1; simp only [hn])
        have HF := hide (unhide HP).bel
        clear HP
        go_wp2
        refine wp_goto ?_
        exact ⟨rfl, JMl.mk rfl (unhide HN) (unhide HF)⟩
      | some d =>
        simp only [optV]
        have HX1 : Hid (mailR L = ml2 d (wordR l1)) := hide (by rw [unhide HX0]; unfold ml1; simp only [hn])
        clear hn HX0
        have hl1 := (unhide HP).len
        go_wp2_with fail
        refine (mWord (unhide HP)).mono ?_
        clear HP
        rintro e W2 ⟨rfl, hp⟩
        obtain ⟨x2, l2, hw2⟩ : ∃ x2 l2, wordR l1 = (x2, l2) := ⟨_, _, rfl⟩
        have hxl : x2.length ≤ l1.length := by have := (wordR_len l1).1; rw [hw2] at this; exact this
        rw [hw2] at HX1 hp
        simp only [hw2]
        simp only at hp
        have HL2 := hide hp.len
        have HP := hide hp
        clear hp hw2
        have HN1 := hide (monthOf_any (bts x2) W2 (by rw [size_bts]; omega))
        rw [toList_bts] at HN1
        go_wp2_with fail
        refine (unhide HN1).mono ?_
        clear HN1
        rintro e _ ⟨rfl, q2, rfl⟩
        have HP2 : Hid (MT w (W2.drewN q2) l2) := hide ⟨(unhide HP).mom.drew q2, drewB (unhide HP).bel q2, (unhide HP).len, (unhide HP).ix⟩
        clear HP
        have HP := HP2
        clear HP2
        generalize W2.drewN q2 = W3 at HP ⊢
        have hmle := monR_le x2
        have HX2 : Hid (mailR L = if monR x2 = 0 then none else ml3 d (monR x2) (wordR l2).1) := HX1
        clear HX1 hxl hl1
        generalize monR x2 = m at HX2 hmle ⊢
        by_cases hm0 : m = 0
        · subst hm0
          simp only [monV, if_true]
          have HN : Hid (mailR L = none) := hide (by rw [unhide HX2, if_pos rfl])
          have HF := hide (unhide HP).bel
          clear HP
          go_wp2
          refine wp_goto ?_
          exact ⟨rfl, JMl.mk rfl (unhide HN) (unhide HF)⟩
        rw [if_neg hm0] at HX2
        rw [show monV m = .tuple #[.int .i64 (m : Int), .bool true] by simp [monV, hm0]]
        go_wp2_with fail
        refine (mWord (unhide HP)).mono ?_
        clear HP
        rintro e W4 ⟨rfl, hp⟩
        obtain ⟨x3, l3, hw3⟩ : ∃ x3 l3, wordR l2 = (x3, l3) := ⟨_, _, rfl⟩
        rw [hw3] at HX2 hp
        simp only [hw3]
        simp only at hp
        have HP := hide hp
        clear hp hw3
        have HN1 := hide (number_any (bts x3) 2 4 W4 (by omega) (by omega))
        rw [toList_bts] at HN1
        go_wp2_with fail
        refine (unhide HN1).mono ?_
        clear HN1
        rintro e W4 ⟨rfl, rfl⟩
        cases hn : numR x3 2 4 with
        | none =>
          simp only [optV]
          have HN : Hid (mailR L = none) := hide (by rw [unhide HX2]; unfold ml3; simp only [hn])
          have HF := hide (unhide HP).bel
          clear HP
          go_wp2
          refine wp_goto ?_
          exact ⟨rfl, JMl.mk rfl (unhide HN) (unhide HF)⟩
        | some y =>
          simp only [optV]
          obtain ⟨hl4, hy4⟩ := numR_le hn
          have HX3 : Hid (mailR L = if vldB (fullR y x3.length) m d then some (num (fullR y x3.length) m d) else none) := hide (by rw [unhide HX2]; unfold ml3; simp only [hn])
          clear hn HX2
          have hsz : (bts x3).size = x3.length := size_bts x3
          have HFY := hide (fun W => fullYear_any y x3.length W (by omega) (by omega))
          go_wp2_with fail
          refine (unhide HFY _).mono ?_
          clear HFY
          rintro e W4 ⟨rfl, rfl⟩
          generalize fullR y x3.length = Y at HX3 ⊢
          have HD := hide (day_any (Y : Int) (m : Int) (d : Int) _ ((unhide HTB).below (unhide HP).bel))
          go_wp2_with fail
          refine (unhide HD).mono ?_
          clear HD
          rintro e W4 ⟨rfl, rfl⟩
          cases hv : vldB (Y : Int) (m : Int) (d : Int)
          · rw [dayV_f hv]
            rw [hv] at HX3
            clear hv
            have HN : Hid (mailR L = none) := hide (by rw [unhide HX3]; rfl)
            have HF := hide (unhide HP).bel
            clear HP
            go_wp2
            refine wp_goto ?_
            exact ⟨rfl, JMl.mk rfl (unhide HN) (unhide HF)⟩
          · rw [dayV_t hv]
            rw [hv] at HX3
            clear hv
            have HN : Hid (mailR L = some (num Y m d)) := hide (by rw [unhide HX3]; rfl)
            have HF := hide (unhide HP).bel
            clear HP HX3
            go_wp2
            (try simp only [Exit.inBlock, Exit.then])
            (try simp only [Exit.jump])
            go_ret2
            exact ⟨by rw [unhide HN]; rfl, unhide HF⟩
  · rintro a' w' ⟨u, rfl, HN, HB⟩
    go_wp2
    (try simp only [Exit.inBlock, Exit.then])
    (try simp only [Exit.jump])
    go_ret2
    exact ⟨by rw [unhide HN]; rfl, unhide HB⟩

end Go.Proofs.YtdallfakfhajdaaGreatDoor
