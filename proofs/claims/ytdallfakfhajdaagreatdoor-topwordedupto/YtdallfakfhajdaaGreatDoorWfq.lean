/-
  What word.fromQ and word.fromText do, over this seat's program.
-/
import Derived.Test.YtdallfakfhajdaaGreatDoorWpu
import Derived.Test.YtdallfakfhajdaaGreatDoorBnd1
set_option linter.unusedVariables false
namespace Go.Proofs.YtdallfakfhajdaaGreatDoor
open Go.RowKit Go.Proofs.Enc

/-- What a text of Q says, gathered from one place on. -/
def qA : Nat → List UInt8 → List UInt8 → Option (List UInt8)
  | 0, acc, _ => some acc
  | _ + 1, acc, [] => some acc
  | f + 1, acc, c :: r => if c = 61 then (if r.length < 2 then none else match hexA 0 (r.take 2) with
      | none => none
      | some n => qA f (acc ++ [UInt8.ofNat n]) (r.drop 2))
    else if c = 95 then qA f (acc ++ [32]) r else qA f (acc ++ [c]) r
theorem qA_us {f : Nat} {acc r : List UInt8} {c : UInt8} (h1 : c ≠ 61) (h2 : c = 95) : qA (f + 1) acc (c :: r) = qA f (acc ++ [32]) r := by
  conv => lhs; unfold qA
  rw [if_neg h1, if_pos h2]
theorem qA_else {f : Nat} {acc r : List UInt8} {c : UInt8} (h1 : c ≠ 61) (h2 : c ≠ 95) : qA (f + 1) acc (c :: r) = qA f (acc ++ [c]) r := by
  conv => lhs; unfold qA
  rw [if_neg h1, if_neg h2]
def fromQR (l : List UInt8) : Option (List UInt8) := qA (l.length + 1) [] l
/-- As Go tells it. -/
def optS (o : Option (List UInt8)) : Value := match o with
  | some l => .tuple #[.string (bts l), .bool true]
  | none => .tuple #[.string (bts []), .bool false]

def FqJ (s : ByteArray) (w : World) (a' : Act) (w' : World) : Prop :=
  ∃ (k : Nat) (acc : List UInt8) (f : Nat) (u : Nat → Value), a' = { tmps := #[.string s, undef, .string ⟨#[]⟩, .bool false, .pointer (some ⟨w.heap.size, 0, none⟩), .int .i64 k, u 6, u 7, u 8, u 9, u 10, u 11, u 12, u 13, u 14, u 15, u 16, u 17, u 18, u 19, u 20, u 21, u 22, u 23, u 24, u 25, u 26, u 27, u 28, u 29, u 30, u 31, u 32, u 33, u 34, u 35, u 36, u 37, u 38, u 39, u 40, u 41, u 42, u 43, u 44, u 45, u 46, u 47, u 48, u 49, u 50, u 51, u 52, u 53], defers := [] } ∧ k ≤ s.size ∧ s.size - k < f ∧ acc.length ≤ k ∧
    Hid (fromQR s.data.toList = qA f acc (s.data.toList.drop k)) ∧ Hid (Wr w w' acc)
theorem FqJ.mk {s : ByteArray} {w : World} {a' : Act} {w' : World} (k : Nat) (acc : List UInt8) (f : Nat)
    (ha : a' = { tmps := #[.string s, undef, .string ⟨#[]⟩, .bool false, .pointer (some ⟨w.heap.size, 0, none⟩), .int .i64 k, a'.tmps.getD 6 undef, a'.tmps.getD 7 undef, a'.tmps.getD 8 undef, a'.tmps.getD 9 undef, a'.tmps.getD 10 undef, a'.tmps.getD 11 undef, a'.tmps.getD 12 undef, a'.tmps.getD 13 undef, a'.tmps.getD 14 undef, a'.tmps.getD 15 undef, a'.tmps.getD 16 undef, a'.tmps.getD 17 undef, a'.tmps.getD 18 undef, a'.tmps.getD 19 undef, a'.tmps.getD 20 undef, a'.tmps.getD 21 undef, a'.tmps.getD 22 undef, a'.tmps.getD 23 undef, a'.tmps.getD 24 undef, a'.tmps.getD 25 undef, a'.tmps.getD 26 undef, a'.tmps.getD 27 undef, a'.tmps.getD 28 undef, a'.tmps.getD 29 undef, a'.tmps.getD 30 undef, a'.tmps.getD 31 undef, a'.tmps.getD 32 undef, a'.tmps.getD 33 undef, a'.tmps.getD 34 undef, a'.tmps.getD 35 undef, a'.tmps.getD 36 undef, a'.tmps.getD 37 undef, a'.tmps.getD 38 undef, a'.tmps.getD 39 undef, a'.tmps.getD 40 undef, a'.tmps.getD 41 undef, a'.tmps.getD 42 undef, a'.tmps.getD 43 undef, a'.tmps.getD 44 undef, a'.tmps.getD 45 undef, a'.tmps.getD 46 undef, a'.tmps.getD 47 undef, a'.tmps.getD 48 undef, a'.tmps.getD 49 undef, a'.tmps.getD 50 undef, a'.tmps.getD 51 undef, a'.tmps.getD 52 undef, a'.tmps.getD 53 undef], defers := [] }) (hk : k ≤ s.size) (hf : s.size - k < f) (hacc : acc.length ≤ k)
    (h : Hid (fromQR s.data.toList = qA f acc (s.data.toList.drop k))) (hw : Hid (Wr w w' acc)) : FqJ s w a' w' := ⟨k, acc, f, fun i => a'.tmps.getD i undef, ha, hk, hf, hacc, h, hw⟩
theorem hexA_lt {a b : UInt8} {n : Nat} (h : hexA 0 [a, b] = some n) : n < 256 := by
  simp only [hexA] at h
  split at h
  · split at h
    · simp at h; omega
    · simp at h
  · simp at h
theorem hexA_bound {l : List UInt8} {n : Nat} (hl : l.length = 2) (h : hexA 0 l = some n) : n < 256 := by
  match l, hl with
  | [a, b], _ => exact hexA_lt h

set_option maxHeartbeats 4000000 in
set_option maxRecDepth 100000 in
theorem fromQ_any (s : ByteArray) (w : World) (hs : s.size ≤ 1099511627776) (hes : ErrS w) :
    Calls Tryz.prog 116 #[.string s] w fun e w' => e = .returned (optS (fromQR s.data.toList)) ∧ Below w.heap.size w w' := by
  have HES := hide hes
  clear hes
  go_enter Tryz.func116, Tryz.ntmps116
  go_wp2
  refine wp_scope_one 0 (FqJ s w) (fun a' _ => s.size - (intOf (a'.tmps.getD 5 undef)).toNat) rfl ?_ ?_
  · intro hp
    go_wp2_with fail
    refine (grow_new _ w (by omega)).mono ?_
    rintro e w1 ⟨rfl, h1, b1, z1⟩
    go_wp2
    go_step3
    rename_i K hK
    exact hK _ _ (hp _ _ (FqJ.mk 0 [] (s.size + 1) rfl (Nat.zero_le _) (by omega) (by simp) (hide (by unfold fromQR; rw [sizeL]; rfl)) (hide ⟨h1, b1⟩)))
  · rintro a' w' ⟨k, acc, f, u, rfl, hk, hf, hacc, HE, HW⟩
    obtain ⟨f', rfl⟩ : ∃ f', f = f' + 1 := ⟨f - 1, by omega⟩
    by_cases hend : k = s.size
    · have hbe : ((k : Int) == (s.size : Int)) = true := by simp [hend]
      have HF : Hid (fromQR s.data.toList = some acc) := hide (by rw [unhide HE, drop_end s (by omega)]; rfl)
      have HS := hide (Tryz.Builder_String_any_f _ _ _ w' (unhide HW).isb (unhide HW).bel.size)
      have HB := hide (unhide HW).bel
      clear hend HE HW
      go_wp2_with fail
      refine (unhide HS).mono ?_
      rintro e w2 ⟨rfl, _, hb2⟩
      have HB2 := hide ((unhide HB).trans hb2)
      clear hb2 HS HB
      go_wp2
      simp only [Exit.jump]
      go_ret2
      exact ⟨by rw [unhide HF]; rfl, unhide HB2⟩
    · have hlt : k < s.size := by omega
      have hbe : ((k : Int) == (s.size : Int)) = false := by simp; omega
      have hd := drop_byte s k hlt
      have he := unhide HE
      rw [hd] at he
      have hc := s[k].toNat_lt
      have hlen : (s.data.toList.drop (k + 1)).length = s.size - (k + 1) := by rw [List.length_drop, sizeL]
      by_cases c61 : s[k] = 61
      · have q1 : ((s[k].toNat : Int) == 61) = true := by rw [c61]; rfl
        unfold qA at he
        rw [if_pos c61, hlen] at he
        by_cases h3 : s.size < k + 3
        · have h3' : (s.size : Int) < (k : Int) + 3 := by omega
          have HF : Hid (fromQR s.data.toList = none) := hide (by rw [he, if_pos (by omega)])
          have HB := hide (unhide HW).bel
          clear he HE HW hd hend c61 hlen
          go_wp2
          simp only [Exit.jump]
          go_ret2
          exact ⟨by rw [unhide HF]; rfl, unhide HB⟩
        · have h3' : ¬ (s.size : Int) < (k : Int) + 3 := by omega
          rw [if_neg (by omega)] at he
          have hsl : ∀ W : World, (Instr.slice 9 (.string s) (some (.int .i64 ((k : Int) + 1))) (some (.int .i64 ((k : Int) + 3))) none).run Tryz.prog W = .ok (.string (s.extract (k + 1) (k + 3))) W := by
            intro W
            have := slice_km s (k + 1) 2 (by omega) W
            rwa [show ((k + 1 : Nat) : Int) = (k : Int) + 1 by omega, show (k : Int) + 1 + ((2 : Nat) : Int) = (k : Int) + 3 by omega, show k + 1 + 2 = k + 3 by omega] at this
          obtain ⟨t, ht⟩ : ∃ t, t = s.extract (k + 1) (k + 3) := ⟨_, rfl⟩
          have htl : t.data.toList = (s.data.toList.drop (k + 1)).take 2 := by rw [ht, toList_part, show k + 3 - (k + 1) = 2 by omega]
          have hts : t.size = 2 := by rw [ht, size_part s (k + 1) (k + 3) (by omega)]; omega
          rw [← ht] at hsl
          rw [← htl] at he
          have hes2 := (unhide HES).below (unhide HW).bel
          cases hx : hexA 0 t.data.toList with
          | none =>
            rw [hx] at he
            have HF := hide he
            have HP := hide (pu_no t w' hts hx hes2)
            have HB := hide (unhide HW).bel
            clear he HE HW hd hend c61 hlen ht htl hx hes2
            go_wp2_with fail
            refine (unhide HP).mono ?_
            rintro e w2 ⟨⟨M, rfl⟩, hb⟩
            have HB2 := hide (belows' (unhide HB) hb)
            clear hb HP HB
            go_wp2
            simp only [Exit.jump]
            go_ret2
            exact ⟨by rw [unhide HF]; rfl, unhide HB2⟩
          | some n =>
            rw [hx] at he
            have hn := hexA_bound (by rw [sizeL]; exact hts) hx
            have HF : Hid (fromQR s.data.toList = qA f' (acc ++ [UInt8.ofNat n]) (s.data.toList.drop (k + 3))) := hide (by rw [he, List.drop_drop])
            have HP := hide (pu_ok t n w' hts hx)
            clear he HE hd hend c61 hlen ht htl hx hes2
            go_wp2_with fail
            refine (unhide HP).mono ?_
            rintro e w2 ⟨rfl, hb⟩
            have hw2 := (unhide HW).below hb
            have HWB := hide (wByte hw2 (UInt8.ofNat n) (n : Int) (by simp; omega) (by omega))
            have hn' : (n : Int) < 256 := by omega
            have hn0 : (0 : Int) ≤ (n : Int) := by omega
            clear hb hw2 HP HW
            go_wp2_with fail
            refine (unhide HWB).mono ?_
            rintro e w3 ⟨rfl, h3⟩
            have H3 := hide h3
            clear h3 HWB
            go_wp2
            go_step3
            refine ⟨rfl, FqJ.mk (k + 3) _ f' (by rfl) (by omega) (by omega) (by simp; omega) HF H3, ?_⟩
            simp [intOf]
            omega
      · have q1 : ((s[k].toNat : Int) == 61) = false := by
          rw [beq_eq_false_iff_ne]
          intro h
          exact c61 (UInt8.toNat_inj.mp (by have : (61 : UInt8).toNat = 61 := rfl; omega))
        by_cases c95 : s[k] = 95
        · have q2 : ((s[k].toNat : Int) == 95) = true := by rw [c95]; rfl
          have HF : Hid (fromQR s.data.toList = qA f' (acc ++ [32]) (s.data.toList.drop (k + 1))) := hide (by rw [he, qA_us c61 c95])
          have HWB := hide (wByte (unhide HW) 32 32 rfl (by omega))
          clear he HE hd hend c61 hlen c95 HW
          go_wp2_with fail
          refine (unhide HWB).mono ?_
          rintro e w3 ⟨rfl, h3⟩
          have H3 := hide h3
          clear h3 HWB
          go_wp2
          go_step3
          refine ⟨rfl, FqJ.mk (k + 1) _ f' (by rfl) (by omega) (by omega) (by simp; omega) HF H3, ?_⟩
          simp [intOf]
          omega
        · have q2 : ((s[k].toNat : Int) == 95) = false := by
            rw [beq_eq_false_iff_ne]
            intro h
            exact c95 (UInt8.toNat_inj.mp (by have : (95 : UInt8).toNat = 95 := rfl; omega))
          have HF : Hid (fromQR s.data.toList = qA f' (acc ++ [s[k]]) (s.data.toList.drop (k + 1))) := hide (by rw [he, qA_else c61 c95])
          have HWB := hide (wByte (unhide HW) s[k] (s[k].toNat : Int) rfl (by omega))
          clear he HE hd hend c61 hlen c95 HW
          go_wp2_with fail
          refine (unhide HWB).mono ?_
          rintro e w3 ⟨rfl, h3⟩
          have H3 := hide h3
          clear h3 HWB
          go_wp2
          go_step3
          refine ⟨rfl, FqJ.mk (k + 1) _ f' (by rfl) (by omega) (by omega) (by simp; omega) HF H3, ?_⟩
          simp [intOf]
          omega

/-- What a text says, if it is right, and there is such a coding. -/
def textR (coding text : List UInt8) : Option (List UInt8) :=
  if smL coding = smL [66] then (if (strictR text).2 = 0 then some (strictR text).1 else none)
  else if smL coding = smL [81] then fromQR text else none
theorem strict_no {l : List UInt8} (h : (strictR l).2 ≠ 0) : (strictR l).1 = [] := by
  unfold strictR at h ⊢
  split
  · rename_i hh
    rw [if_pos hh] at h
    exact absurd rfl h
  · rfl

set_option maxHeartbeats 2000000 in
set_option maxRecDepth 100000 in
theorem fromText_any (cd tx : ByteArray) (w : World) (hc : cd.size ≤ 281474976710656) (hs : tx.size ≤ 1099511627776) (hes : ErrS w) :
    Calls Tryz.prog 69 #[.string cd, .string tx] w fun e w' => e = .returned (optS (textR cd.data.toList tx.data.toList)) ∧ Below w.heap.size w w' := by
  have H1 := hide (fun W => like_any cd (bts [66]) W hc (by rw [size_bts]; decide))
  have H2 := hide (fun W => like_any cd (bts [81]) W hc (by rw [size_bts]; decide))
  rw [toList_bts] at H1 H2
  simp only [bts] at H1 H2
  have HS := hide (fun W => strict_any tx W hs)
  have HQ := hide (fun W (h : ErrS W) => fromQ_any tx W hs h)
  have HES := hide hes
  have hdr : ∀ q, Below w.heap.size w (w.drewN q) := fun q => ⟨rfl, rfl, rfl, Nat.le_refl _, fun _ _ => rfl⟩
  have HDR := hide hdr
  clear hes hdr
  by_cases a : smL cd.data.toList = smL [66]
  · rw [decide_eq_true a] at H1
    obtain ⟨n, hn⟩ : ∃ n, n = (strictR tx.data.toList).2 := ⟨_, rfl⟩
    have HF : Hid (textR cd.data.toList tx.data.toList = if n = 0 then some (strictR tx.data.toList).1 else none) := hide (by unfold textR; rw [if_pos a, hn])
    have HNO : Hid (n ≠ 0 → bts (strictR tx.data.toList).1 = bts []) := hide (fun h => by rw [strict_no (by rw [← hn]; exact h)])
    rw [← hn] at HS
    obtain ⟨sl, hsl⟩ : ∃ sl, sl = (strictR tx.data.toList).1 := ⟨_, rfl⟩
    rw [← hsl] at HS HF HNO
    clear a hn hsl H2 HQ
    go_enter Tryz.func69, Tryz.ntmps69
    go_wp2_with fail
    refine (unhide H1 _).mono ?_
    rintro e w1 ⟨rfl, q, rfl⟩
    have HB1 := hide (unhide HDR q)
    clear H1
    generalize w.drewN q = w1 at HB1 ⊢
    go_wp2_with fail
    refine (unhide HS _).mono ?_
    rintro e w2 ⟨rfl, hb⟩
    have HB2 := hide (belows' (unhide HB1) hb)
    clear hb HS HB1
    by_cases h0 : n = 0
    · have q0 : ((n : Int) == 0) = true := by rw [h0]; rfl
      rw [if_pos h0] at HF
      subst h0
      clear HNO
      generalize hsb : bts sl = sb
      have HSB := hide hsb
      clear hsb
      go_wp2
      go_ret2
      exact ⟨by rw [unhide HF]; simp only [optS]; rw [unhide HSB]; rfl, unhide HB2⟩
    · have q0 : ((n : Int) == 0) = false := by rw [beq_eq_false_iff_ne]; omega
      rw [if_neg h0] at HF
      have hsb := unhide HNO h0
      rw [hsb]
      clear HNO hsb h0
      generalize hsb : bts [] = sb
      have HSB := hide hsb
      clear hsb
      go_wp2
      go_ret2
      exact ⟨by rw [unhide HF]; simp only [optS]; rw [unhide HSB]; rfl, unhide HB2⟩
  · rw [decide_eq_false a] at H1
    by_cases b : smL cd.data.toList = smL [81]
    · rw [decide_eq_true b] at H2
      have HF : Hid (textR cd.data.toList tx.data.toList = fromQR tx.data.toList) := hide (by unfold textR; rw [if_neg a, if_pos b])
      obtain ⟨sv, bv, hov⟩ : ∃ (sv : ByteArray) (bv : Bool), optS (fromQR tx.data.toList) = .tuple #[.string sv, .bool bv] := by
        cases fromQR tx.data.toList with
        | none => exact ⟨_, _, rfl⟩
        | some l => exact ⟨_, _, rfl⟩
      rw [hov] at HQ
      have HOV := hide hov
      clear a b hov HS
      go_enter Tryz.func69, Tryz.ntmps69
      go_wp2_with fail
      refine (unhide H1 _).mono ?_
      rintro e w1 ⟨rfl, q, rfl⟩
      have HB1 := hide (unhide HDR q)
      clear H1
      generalize w.drewN q = w1 at HB1 ⊢
      go_wp2_with fail
      refine (unhide H2 _).mono ?_
      rintro e w2 ⟨rfl, q2, h2⟩
      have HB2 : Hid (Below w.heap.size w w2) := hide (by rw [h2]; exact ⟨(unhide HB1).os, (unhide HB1).tape, (unhide HB1).output, (unhide HB1).size, (unhide HB1).block⟩)
      clear H2 h2 HB1
      go_wp2_with fail
      refine (unhide HQ _ ((unhide HES).below (unhide HB2))).mono ?_
      rintro e w3 ⟨rfl, hb⟩
      have HB3 := hide (belows' (unhide HB2) hb)
      clear hb HQ HB2
      go_wp2
      go_ret2
      exact ⟨by rw [unhide HF, unhide HOV]; rfl, unhide HB3⟩
    · rw [decide_eq_false b] at H2
      have HF : Hid (textR cd.data.toList tx.data.toList = none) := hide (by unfold textR; rw [if_neg a, if_neg b])
      clear a b HS HQ
      go_enter Tryz.func69, Tryz.ntmps69
      go_wp2_with fail
      refine (unhide H1 _).mono ?_
      rintro e w1 ⟨rfl, q, rfl⟩
      have HB1 := hide (unhide HDR q)
      clear H1
      generalize w.drewN q = w1 at HB1 ⊢
      go_wp2_with fail
      refine (unhide H2 _).mono ?_
      rintro e w2 ⟨rfl, q2, h2⟩
      have HB2 : Hid (Below w.heap.size w w2) := hide (by rw [h2]; exact ⟨(unhide HB1).os, (unhide HB1).tape, (unhide HB1).output, (unhide HB1).size, (unhide HB1).block⟩)
      clear H2 h2 HB1
      go_wp2
      go_ret2
      exact ⟨by rw [unhide HF]; rfl, unhide HB2⟩
end Go.Proofs.YtdallfakfhajdaaGreatDoor
