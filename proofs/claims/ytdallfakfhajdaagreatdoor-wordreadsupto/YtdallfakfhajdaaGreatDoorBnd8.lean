/-
  What missiveref09.blank, Both, Decode and Words do, over this seat's program.
-/
import Derived.Test.YtdallfakfhajdaaGreatDoorBnd7
import Derived.Test.YtdallfakfhajdaaGreatDoorApq
set_option linter.unusedVariables false
namespace Go.Proofs.YtdallfakfhajdaaGreatDoor
open Go.RowKit Go.Proofs.Enc Go.Proofs.Rns

def skB (l : List UInt8) : List UInt8 := l.dropWhile isBl
theorem skB_nil {l : List UInt8} : skB l = [] ↔ blL l = true := dropWhile_nil l

set_option maxHeartbeats 2000000 in
set_option maxRecDepth 100000 in
theorem refBlankW_any (s : ByteArray) (w : World) (hs : s.size ≤ 40000000) :
    Calls Tryz.prog 79 #[.string s] w fun e w' => (∃ r : ByteArray, e = .returned (.string r) ∧ r.data.toList = skB s.data.toList) ∧ w' = w := by
  go_enter Tryz.func79, Tryz.ntmps79
  go_wp2
  go_loop [0] (fun z => ∃ r : ByteArray, z = .string r ∧ r.size ≤ s.size ∧ Hid (skB r.data.toList = skB s.data.toList)) (fun z => match z with | .string r => r.size | _ => 0)
  case atStart => exact ⟨s, rfl, Nat.le_refl _, hide rfl⟩
  case round =>
    obtain ⟨r, rfl, hr, HE⟩ := hrel
    by_cases h0 : r.size = 0
    · have hem : r.toList.isEmpty = true := by rw [empty_size]; exact decide_eq_true h0
      have HF : Hid (r.data.toList = skB s.data.toList) := hide (by
        rw [← unhide HE, (show r.data.toList = [] from List.eq_nil_of_length_eq_zero (by rw [sizeL]; exact h0))]
        rfl)
      clear HE
      go_wp2
      go_ret
      exact ⟨⟨r, rfl, unhide HF⟩, rfl⟩
    · have hem : r.toList.isEmpty = false := by rw [empty_size]; exact decide_eq_false h0
      have hp : 0 < r.size := by omega
      have hd := drop_byte r 0 hp
      rw [List.drop_zero, Nat.zero_add] at hd
      have HN : Hid ((r.extract 1 r.size).data.toList = r.data.toList.drop 1) := hide (toList_from r 1)
      have hz : (r.extract 1 r.size).size = r.size - 1 := by rw [← sizeL, toList_from, List.length_drop, sizeL]
      by_cases h32 : r[0] = 32
      · have e1 : ((r[0].toNat : Int) == 32) = true := by rw [h32]; rfl
        have HE2 : Hid (skB (r.extract 1 r.size).data.toList = skB s.data.toList) := hide (by
          rw [unhide HN, ← unhide HE]
          conv => rhs; rw [hd, h32]
          rfl)
        clear HE HN hd h32
        go_wp2
        exact ⟨⟨_, rfl, by omega, HE2⟩, by show (r.extract 1 r.size).size < r.size; omega⟩
      · have e1 : ((r[0].toNat : Int) == 32) = false := by
          rw [beq_eq_false_iff_ne]
          intro e
          exact h32 (UInt8.toNat_inj.mp (by have : (32 : UInt8).toNat = 32 := rfl; omega))
        by_cases h9 : r[0] = 9
        · have e2 : ((r[0].toNat : Int) == 9) = true := by rw [h9]; rfl
          have HE2 : Hid (skB (r.extract 1 r.size).data.toList = skB s.data.toList) := hide (by
            rw [unhide HN, ← unhide HE]
            conv => rhs; rw [hd, h9]
            rfl)
          clear HE HN hd h9 h32
          go_wp2
          exact ⟨⟨_, rfl, by omega, HE2⟩, by show (r.extract 1 r.size).size < r.size; omega⟩
        · have e2 : ((r[0].toNat : Int) == 9) = false := by
            rw [beq_eq_false_iff_ne]
            intro e
            exact h9 (UInt8.toNat_inj.mp (by have : (9 : UInt8).toNat = 9 := rfl; omega))
          have HF : Hid (r.data.toList = skB s.data.toList) := hide (by
            rw [← unhide HE]
            conv => rhs; rw [hd]
            unfold skB
            rw [List.dropWhile_cons, show isBl r[0] = false by unfold isBl; simp [h32, h9]]
            exact hd)
          clear HE HN hd h9 h32
          go_wp2
          go_ret
          exact ⟨⟨r, rfl, unhide HF⟩, rfl⟩

theorem rdL_is (l : List UInt8) : ∀ n ∈ rdL (rdW l), isL (n : Int) = true := by
  unfold rdW
  cases opW l with
  | none => simp [rdL]
  | some r =>
    simp only
    unfold rdP
    split
    · split
      · split
        · simp [rdL]
        · exact decR_is _ _
      · simp [rdL]
    · simp [rdL]
theorem one_miss {l : List UInt8} (h : oneD l = none) : rdN (rdW l) = 0 := by
  rw [one_same] at h
  unfold oneR' at h
  split at h
  · assumption
  · cases h
theorem one_hit {l : List UInt8} {p : List Nat × List UInt8} (h : oneD l = some p) : rdN (rdW l) ≠ 0 ∧ p = (rdL (rdW l), l.drop (rdN (rdW l))) := by
  rw [one_same] at h
  unfold oneR' at h
  split at h
  · cases h
  · rename_i hn
    exact ⟨hn, (Option.some.inj h).symm⟩
theorem runeC_ints (l : List Nat) : runeC l = intC (ints l) := by simp [runeC, intC, ints]
theorem ints_len (l : List Nat) : (ints l).length = l.length := by simp [ints]
theorem BothJ.out_le {s0 run s : List UInt8} {f many : Nat} {o : List Nat} {bw : Bool} (h : BothJ s0 f o many run s bw) : o.length ≤ s0.length ∧ many ≤ s0.length := by
  have h1 := pcW_few s0
  have h2 : wdN (pcW s0) ≤ s0.length := pcF_words _ _ _
  have h3 := congrArg List.length h.flat
  have h4 := h.num
  unfold flP at h3
  rw [List.length_append] at h3
  omega
theorem ints_cat2 (a b : List Nat) : ints (a ++ b) = ints a ++ ints b := by simp [ints]
theorem isL_range {l : List Nat} (h : ∀ n ∈ l, isL (n : Int) = true) : ∀ n ∈ ints l, -2147483648 ≤ n ∧ n ≤ 2147483647 := by
  intro n hn
  obtain ⟨m, hm, rfl⟩ := List.mem_map.1 hn
  have := of_decide_eq_true (h m hm)
  have e : Int.ofNat m = (m : Int) := rfl
  omega

/-- append of letters, with what is known of all other blocks. -/
theorem run_append_rowG (w : World) (B : Nat) (v x : Value) (k l : List Int) (ty : TypeId) (hown : w.ownsRow B 21 1 v k.length (intC k)) (hx : RowI w x l) (hnt : Neat x) (hkl : k.length + l.length ≤ 4194304) (hB : B ≤ w.heap.size) :
    ∃ v' w', (Builtin.append_ #[22, 22] ty #[v, x]).run Tryz.prog w = .ok v' w' ∧ w'.ownsRow B 21 1 v' (k ++ l).length (intC (k ++ l)) ∧ Below B w w' ∧ w.grownBy w' v.ownBlock := by
  obtain ⟨i0, hi, hz0, hz1, hz2⟩ := info_parts rInfo
  obtain ⟨a, cap, rfl, hr, hc⟩ := hx
  cases a with
  | none =>
    obtain ⟨h0, rfl⟩ := hnt _ _ rfl
    have hl : l = [] := List.eq_nil_of_length_eq_zero h0
    subst hl
    refine ⟨v, w, run_append_owned_none (P := Tryz.prog) (w := w) B 22 ty 21 i0 1 Tryz.underlying22 hi v _ _ hown, by simpa using hown, Below.refl _ _, ⟨rfl, rfl, rfl, Nat.le_refl _, fun _ _ _ => rfl⟩⟩
  | some ad =>
    have hnews : ∀ j u, (intC l)[j]? = some u → w.cell? (ad.add j) = some u := by
      intro j u hj
      rcases hc with hc | ⟨b, off, ha, hlt, hc⟩
      · subst hc; simp [intC] at hj
      · obtain rfl := Option.some.inj ha
        rw [add_off]
        have hjl : j < l.length := by
          rcases Nat.lt_or_ge j l.length with h | h
          · exact h
          · rw [List.getElem?_eq_none (by simpa [intC] using h)] at hj; simp at hj
        rw [hc j hjl]
        simp [intC, List.getElem?_eq_getElem hjl] at hj
        rw [← hj]
    obtain ⟨v', w', hrun, h2, h3, h4⟩ := run_append_own (P := Tryz.prog) w B 22 ty 21 i0 (.int .i32 0) 1 4 Tryz.underlying22 hi hz0 hz1 hz2 rfl (by decide) v k.length (intC k) hown ad l.length cap (intC l) (by simp [intC]) hnews (by intro u hu; simp [intC] at hu; obtain ⟨n, _, rfl⟩ := hu; rfl) (by unfold maxLen; omega) (by omega) hB
    refine ⟨v', w', hrun, by simpa [intC] using h2, ?_, h3⟩
    refine ⟨h3.os, h3.tape, h3.output, h3.size, fun i hi' => h3.block i (by omega) ?_⟩
    rcases hown.2 with ⟨rfl, _⟩ | ⟨g, cap, cur, rfl, hg, _⟩
    · simp [Value.ownBlock]
    · simp [Value.ownBlock]; omega
/-- A row of the call's own stays where another one grows. -/
theorem own_apart {w w' : World} {B : Nat} {e : TypeId} {x v : Value} {n : Nat} {xs : List Value} (h : w.ownsRow B e 1 x n xs) (hg : w.grownBy w' v.ownBlock) (hv : ∀ k, v.ownBlock = some k → k < B) : w'.ownsRow B e 1 x n xs :=
  own_same h fun k hk => by
    have hb := own_block h hk
    refine hg.block k hb.2 ?_
    intro e
    have := hv k (by first | exact e | exact e.symm)
    omega

set_option maxHeartbeats 1000000 in
set_option maxRecDepth 100000 in
theorem refBoth_any (s : ByteArray) (w : World) (hs : s.size ≤ 1048576) :
    Calls Tryz.prog 36 #[.string s] w fun e w' => (∃ v, e = .returned (.tuple #[v, .int .i64 (wdN (pcW s.data.toList) : Nat)]) ∧ RowI w' v (ints (flP (pcW s.data.toList)))) ∧ Below w.heap.size w w' := by
  have hsl := sizeL s
  go_enter Tryz.func36, Tryz.ntmps36
  go_wp2
  go_loopw [0, 4, 5, 6, 7, 8, 9, 10] (fun xs xo xm xr xb y1 y2 y3 wr => ∃ (r run : ByteArray) (out : List Nat) (many f : Nat) (bw : Bool), xs = .string r ∧ xm = .int .i64 (many : Int) ∧ xr = .string run ∧ xb = .bool bw ∧ r.size + run.size ≤ s.size ∧ out.length ≤ s.size ∧ many ≤ s.size ∧
    Hid (BothJ s.data.toList f out many run.data.toList r.data.toList bw) ∧ Hid (wr.ownsRow w.heap.size 21 1 xo (ints out).length (intC (ints out))) ∧ Hid (∀ n ∈ out, isL (n : Int) = true) ∧ Hid (Below w.heap.size w wr)) (fun xs _ _ _ _ _ _ _ _ => match xs with | .string r => r.size | _ => 0)
  case atStart => exact ⟨s, ⟨#[]⟩, [], 0, s.data.toList.length + 1, false, rfl, rfl, rfl, rfl, Nat.le_refl _, Nat.zero_le _, Nat.zero_le _, hide (BothJ.start _), hide ⟨rfl, Or.inl ⟨rfl, rfl⟩⟩, hide (fun n hn => by simp at hn), hide (Below.refl _ _)⟩
  case round =>
    obtain ⟨r, run, out, many, f, bw, rfl, rfl, rfl, rfl, hz, hol, hml, HJ, HO, HI, HB⟩ := hrel
    have HRL := hide (fun W => refLetters_any run W (by omega))
    by_cases h0 : r.size = 0
    · have hem : r.toList.isEmpty = true := by rw [empty_size]; exact decide_eq_true h0
      have hj := unhide HJ
      rw [show r.data.toList = [] from List.eq_nil_of_length_eq_zero (by rw [sizeL]; exact h0)] at hj
      obtain ⟨hf1, hf2⟩ := hj.stop
      have HF1 := hide hf1
      have HF2 := hide hf2
      clear hj hf1 hf2 HJ
      go_wp2_with fail
      refine (unhide HRL _).mono ?_
      rintro e w1 ⟨v1, rfl, o1, b1⟩
      have hll := lettersL_len run.data.toList
      rw [sizeL] at hll
      have HLI := hide (lettersL_is run.data.toList)
      obtain ⟨z1, q1, hz1⟩ := (own_rowI o1 (unhide HLI)).len
      subst hz1
      obtain ⟨v2, u2, hr2, ho2, hb2, _, _⟩ := run_append_rowI w1 w.heap.size u4 _ (ints out) (ints (lettersL run.data.toList)) 22 (own_below (unhide HO) b1) (own_rowI o1 (unhide HLI)) (own_neat o1) (by rw [ints_len, ints_len]; omega) (by have := (unhide HB).size; have := b1.size; omega)
      have HROW := hide (own_rowC ho2 (by
        intro n hn
        rcases List.mem_append.1 hn with hn | hn
        · exact isL_range (unhide HI) n hn
        · exact isL_range (unhide HLI) n hn))
      rw [← ints_cat2, ← unhide HF1] at HROW
      have HB2 := hide ((belows' (unhide HB) b1).trans hb2)
      have hsl4 : ∃ z4 q4 p4, u4 = .slice z4 q4 p4 := by rcases (unhide HO).2 with ⟨h, _⟩ | ⟨g, cap, cur, h, _⟩ <;> exact ⟨_, _, _, h⟩
      clear o1 b1 ho2 hb2 HRL HO HI HB HLI
      generalize ints (lettersL run.data.toList) = LR at *
      obtain ⟨z4, q4, p4, rfl⟩ := hsl4
      go_wp2_with (at_builtin; refine wpList_append_run (by rfl) _ _ 22 rfl rfl rfl rfl hr2 ?_)
      go_ret2
      exact ⟨⟨v2, by rw [unhide HF2]; rfl, unhide HROW⟩, unhide HB2⟩
    · have hem : r.toList.isEmpty = false := by rw [empty_size]; exact decide_eq_false h0
      have hp : 0 < r.size := by omega
      have hd := drop_byte r 0 hp
      rw [List.drop_zero, Nat.zero_add] at hd
      have HON := hide (refOneW_any r wr (by omega))
      have hsl4 : ∃ z4 q4 p4, u4 = .slice z4 q4 p4 := by rcases (unhide HO).2 with ⟨h, _⟩ | ⟨g, cap, cur, h, _⟩ <;> exact ⟨_, _, _, h⟩
      obtain ⟨z4, q4, p4, rfl⟩ := hsl4
      have HD := hide hd
      clear hd
      go_wp2_with fail
      refine (unhide HON).mono ?_
      rintro e w1 ⟨⟨hno, rfl⟩ | ⟨p, v1, hyes, rfl, o1⟩, b1⟩
      · have hj := unhide HJ
        rw [unhide HD] at hj
        have hj2 := hj.miss (out := []) (by rw [← unhide HD]; exact one_miss hno)
        have e1 : (run ++ r.extract 0 1).data.toList = run.data.toList ++ [r[0]] := by
          rw [ByteArray.data_append, Array.toList_append, upto_bts, toList_bts, unhide HD]
          rfl
        have e2 : (r.extract 1 r.size).data.toList = r.data.toList.drop 1 := toList_from r 1
        have hz1 : (r.extract 0 1).size = 1 := by rw [upto_bts, size_bts, List.length_take, sizeL]; omega
        have hz2 : (run ++ r.extract 0 1).size = run.size + 1 := by rw [ByteArray.size_append, hz1]
        have hz3 : (r.extract 1 r.size).size = r.size - 1 := by rw [← sizeL, e2, List.length_drop, sizeL]
        have HJ2 : Hid (BothJ s.data.toList f out many (run ++ r.extract 0 1).data.toList (r.extract 1 r.size).data.toList bw) := hide (by rw [e1, e2]; exact hj2)
        have HO2 := hide (own_below (unhide HO) b1)
        have HB2 := hide (belows' (unhide HB) b1)
        clear hj hj2 e1 e2 HJ HO HB b1 hno HON HD HRL
        go_wp2
        exact ⟨⟨r.extract 1 r.size, run ++ r.extract 0 1, out, many, f, bw, rfl, rfl, rfl, rfl, by omega, hol, hml, HJ2, HO2, HI, HB2⟩, by show (r.extract 1 r.size).size < r.size; omega⟩
      · obtain ⟨hn, rfl⟩ := one_hit hyes
        have hj := (unhide HJ).hit hn
        have hdl : (bts (r.data.toList.drop (rdN (rdW r.data.toList)))).data.toList = r.data.toList.drop (rdN (rdW r.data.toList)) := toList_bts _
        have hdz : (bts (r.data.toList.drop (rdN (rdW r.data.toList)))).size < r.size := by rw [size_bts, List.length_drop, sizeL]; omega
        have hjo := hj.out_le
        rw [hsl] at hjo
        rw [← hdl] at hj
        have HLI1 := hide (rdL_is r.data.toList)
        simp only at o1
        generalize bts (r.data.toList.drop (rdN (rdW r.data.toList))) = nx at hj hdz ⊢
        generalize rdL (rdW r.data.toList) = L1 at hj hjo o1 HLI1
        have HJ2 := hide hj
        clear hj hdl HJ hyes hn HON
        have HO1 := hide o1
        have HVB : Hid (∀ k, (Value.slice z4 q4 p4).ownBlock = some k → k < wr.heap.size) := hide (fun k hk => (own_block (unhide HO) hk).2)
        obtain ⟨z1, q1, hz1⟩ := (own_rowI o1 (unhide HLI1)).len
        subst hz1
        have HOa := hide (own_below (unhide HO) b1)
        have HBa := hide (belows' (unhide HB) b1)
        have hw1 : wr.heap.size ≤ w1.heap.size := b1.size
        have hwr : w.heap.size ≤ wr.heap.size := (unhide HB).size
        clear o1 b1 HO HB HD
        have hll := lettersL_len run.data.toList
        rw [sizeL] at hll
        have HLI := hide (lettersL_is run.data.toList)
        cases bw with
        | false =>
          rw [if_neg (by simp)] at HJ2 hjo
          rw [List.length_append, List.length_append] at hjo
          have hjo1 := hjo.1
          rw [← List.length_append, ← List.length_append] at hjo
          go_wp2_with fail
          refine (unhide HRL _).mono ?_
          rintro e w3 ⟨v3, rfl, o3, b3⟩
          obtain ⟨z3, q3, hz3⟩ := (own_rowI o3 (unhide HLI)).len
          subst hz3
          have hw3 : w1.heap.size ≤ w3.heap.size := b3.size
          obtain ⟨v5, u5, hr5, ho5, hb5, hg5⟩ := run_append_rowG w3 w.heap.size _ _ (ints out) (ints (lettersL run.data.toList)) 22 (own_below (unhide HOa) b3) (own_rowI o3 (unhide HLI)) (own_neat o3) (by rw [ints_len, ints_len]; omega) (by omega)
          have hB5 : Below w.heap.size w u5 := (belows' (unhide HBa) b3).trans hb5
          have hx5 := own_apart (own_below (unhide HO1) b3) hg5 (unhide HVB)
          obtain ⟨v6, u6, hr6, ho6, hb6, hg6⟩ := run_append_rowG u5 w.heap.size v5 _ (ints out ++ ints (lettersL run.data.toList)) (ints L1) 22 ho5 (own_rowI hx5 (unhide HLI1)) (own_neat hx5) (by rw [List.length_append, ints_len, ints_len, ints_len]; omega) hB5.size
          have HB6 := hide (hB5.trans hb6)
          rw [← ints_cat2, ← ints_cat2] at ho6
          have HO6 := hide ho6
          have HI6 : Hid (∀ n ∈ out ++ lettersL run.data.toList ++ L1, isL (n : Int) = true) := hide (fun n hn => by
            rcases List.mem_append.1 hn with hn | hn
            · rcases List.mem_append.1 hn with hn | hn
              · exact unhide HI n hn
              · exact unhide HLI n hn
            · exact unhide HLI1 n hn)
          have hol6 : (out ++ lettersL run.data.toList ++ L1).length ≤ s.size := hjo.1
          clear o3 b3 ho5 hb5 hg5 hx5 ho6 hb6 hg6 hB5 HRL HO1 HOa HBa HVB
          generalize out ++ lettersL run.data.toList ++ L1 = OUT at *
          generalize ints (lettersL run.data.toList) = LR at *
          generalize ints L1 = LL at *
          go_wp2_with (at_builtin; first | refine wpList_append_run (by rfl) _ _ 22 rfl rfl rfl rfl hr5 ?_ | refine wpList_append_run (by rfl) _ _ 22 rfl rfl rfl rfl hr6 ?_)
          exact ⟨⟨nx, ⟨#[]⟩, OUT, many + 1, f, true, rfl, by go_num, rfl, rfl, by show nx.size + 0 ≤ s.size; omega, hol6, hjo.2, HJ2, HO6, HI6, HB6⟩, by show nx.size < r.size; omega⟩
        | true =>
          obtain hbk := refBlankW_any run
          have HBK := hide (fun W => refBlankW_any run W (by omega))
          clear hbk
          by_cases hbl : blL run.data.toList = true
          · rw [if_pos ⟨rfl, hbl⟩] at HJ2 hjo
            rw [List.length_append] at hjo
            have hjo1 := hjo.1
            rw [← List.length_append] at hjo
            have hsk : skB run.data.toList = [] := skB_nil.2 hbl
            rw [hsk] at HBK
            clear hbl hsk
            go_wp2_with fail
            refine (unhide HBK _).mono ?_
            rintro e w2 ⟨⟨rb, rfl, hrb⟩, hw2⟩
            rw [hw2]
            clear hw2
            have hre : rb.toList.isEmpty = true := by rw [empty_size]; exact decide_eq_true (by rw [← sizeL, hrb]; rfl)
            obtain ⟨v6, u6, hr6, ho6, hb6, hg6⟩ := run_append_rowG _ w.heap.size _ _ (ints out) (ints L1) 22 (unhide HOa) (own_rowI (unhide HO1) (unhide HLI1)) (own_neat (unhide HO1)) (by rw [ints_len, ints_len]; omega) (by omega)
            have HB6 := hide ((unhide HBa).trans hb6)
            rw [← ints_cat2] at ho6
            have HO6 := hide ho6
            have HI6 : Hid (∀ n ∈ out ++ L1, isL (n : Int) = true) := hide (fun n hn => by
              rcases List.mem_append.1 hn with hn | hn
              · exact unhide HI n hn
              · exact unhide HLI1 n hn)
            have hol6 : (out ++ L1).length ≤ s.size := hjo.1
            clear ho6 hb6 hg6 HRL HO1 HOa HBa HVB hrb HBK
            generalize out ++ L1 = OUT at *
            generalize ints L1 = LL at *
            go_wp2_with (at_builtin; refine wpList_append_run (by rfl) _ _ 22 rfl rfl rfl rfl hr6 ?_)
            exact ⟨⟨nx, ⟨#[]⟩, OUT, many + 1, f, true, rfl, by go_num, rfl, rfl, by show nx.size + 0 ≤ s.size; omega, hol6, hjo.2, HJ2, HO6, HI6, HB6⟩, by show nx.size < r.size; omega⟩
          · rw [if_neg (fun h => hbl h.2)] at HJ2 hjo
            rw [List.length_append, List.length_append] at hjo
            have hjo1 := hjo.1
            rw [← List.length_append, ← List.length_append] at hjo
            have hsk : skB run.data.toList ≠ [] := fun e => hbl (skB_nil.1 e)
            go_wp2_with fail
            refine (unhide HBK _).mono ?_
            rintro e w2 ⟨⟨rb, rfl, hrb⟩, hw2⟩
            rw [hw2]
            clear hw2
            have hre : rb.toList.isEmpty = false := by
              rw [empty_size]
              refine decide_eq_false fun e => hsk ?_
              rw [← hrb]
              exact List.eq_nil_of_length_eq_zero (by rw [sizeL]; exact e)
            clear hbl hsk hrb HBK
            go_wp2_with fail
            refine (unhide HRL _).mono ?_
            rintro e w3 ⟨v3, rfl, o3, b3⟩
            obtain ⟨z3, q3, hz3⟩ := (own_rowI o3 (unhide HLI)).len
            subst hz3
            have hw3 : w1.heap.size ≤ w3.heap.size := b3.size
            obtain ⟨v5, u5, hr5, ho5, hb5, hg5⟩ := run_append_rowG w3 w.heap.size _ _ (ints out) (ints (lettersL run.data.toList)) 22 (own_below (unhide HOa) b3) (own_rowI o3 (unhide HLI)) (own_neat o3) (by rw [ints_len, ints_len]; omega) (by omega)
            have hB5 : Below w.heap.size w u5 := (belows' (unhide HBa) b3).trans hb5
            have hx5 := own_apart (own_below (unhide HO1) b3) hg5 (unhide HVB)
            obtain ⟨v6, u6, hr6, ho6, hb6, hg6⟩ := run_append_rowG u5 w.heap.size v5 _ (ints out ++ ints (lettersL run.data.toList)) (ints L1) 22 ho5 (own_rowI hx5 (unhide HLI1)) (own_neat hx5) (by rw [List.length_append, ints_len, ints_len, ints_len]; omega) hB5.size
            have HB6 := hide (hB5.trans hb6)
            rw [← ints_cat2, ← ints_cat2] at ho6
            have HO6 := hide ho6
            have HI6 : Hid (∀ n ∈ out ++ lettersL run.data.toList ++ L1, isL (n : Int) = true) := hide (fun n hn => by
              rcases List.mem_append.1 hn with hn | hn
              · rcases List.mem_append.1 hn with hn | hn
                · exact unhide HI n hn
                · exact unhide HLI n hn
              · exact unhide HLI1 n hn)
            have hol6 : (out ++ lettersL run.data.toList ++ L1).length ≤ s.size := hjo.1
            clear o3 b3 ho5 hb5 hg5 hx5 ho6 hb6 hg6 hB5 HRL HO1 HOa HBa HVB
            generalize out ++ lettersL run.data.toList ++ L1 = OUT at *
            generalize ints (lettersL run.data.toList) = LR at *
            generalize ints L1 = LL at *
            go_wp2_with (at_builtin; first | refine wpList_append_run (by rfl) _ _ 22 rfl rfl rfl rfl hr5 ?_ | refine wpList_append_run (by rfl) _ _ 22 rfl rfl rfl rfl hr6 ?_)
            exact ⟨⟨nx, ⟨#[]⟩, OUT, many + 1, f, true, rfl, by go_num, rfl, rfl, by show nx.size + 0 ≤ s.size; omega, hol6, hjo.2, HJ2, HO6, HI6, HB6⟩, by show nx.size < r.size; omega⟩
end Go.Proofs.YtdallfakfhajdaaGreatDoor

/-
  What missiveref09.Decode and Words, and missivelaw09.WordReads do, over this seat's program: the last one answers true.
-/
set_option linter.unusedVariables false
namespace Go.Proofs.YtdallfakfhajdaaGreatDoor
open Go.RowKit Go.Proofs.Enc Go.Proofs.Rns

set_option maxHeartbeats 1000000 in
set_option maxRecDepth 100000 in
theorem refDecodeW_any (s : ByteArray) (w : World) (hs : s.size ≤ 1048576) :
    Calls Tryz.prog 14 #[.string s] w fun e w' => (∃ v, e = .returned v ∧ RowI w' v (ints (flP (pcW s.data.toList)))) ∧ Below w.heap.size w w' := by
  have HB := hide (refBoth_any s w hs)
  generalize wdN (pcW s.data.toList) = n at HB
  go_enter Tryz.func14, Tryz.ntmps14
  go_wp2_with fail
  refine (unhide HB).mono ?_
  rintro e w1 ⟨⟨v, rfl, hv⟩, b1⟩
  have HV := hide hv
  clear hv HB
  go_wp2
  go_ret
  exact ⟨⟨v, rfl, unhide HV⟩, b1⟩
set_option maxHeartbeats 1000000 in
set_option maxRecDepth 100000 in
theorem refWordsW_any (s : ByteArray) (w : World) (hs : s.size ≤ 1048576) :
    Calls Tryz.prog 16 #[.string s] w fun e w' => e = .returned (.int .i64 (wdN (pcW s.data.toList) : Nat)) ∧ Below w.heap.size w w' := by
  have HB := hide (refBoth_any s w hs)
  generalize wdN (pcW s.data.toList) = n at HB
  go_enter Tryz.func16, Tryz.ntmps16
  go_wp2_with fail
  refine (unhide HB).mono ?_
  rintro e w1 ⟨⟨v, rfl, hv⟩, b1⟩
  clear hv HB
  go_wp2
  go_ret
  exact ⟨rfl, b1⟩

def oneW2 (l : List UInt8) : Nat × List UInt8 × List Nat := match oneD l with
  | none => (7, [], [])
  | some p => (0, p.2, p.1)
theorem oneW_same (l : List UInt8) : oneW l = ((oneW2 l).2.2, (oneW2 l).2.1, (oneW2 l).1) := by
  unfold oneW oneW2
  rw [one_same]
  unfold oneR'
  by_cases h : rdN (rdW l) = 0
  · rw [if_pos h, if_pos h]
  · rw [if_neg h, if_neg h]
theorem oneW2_is (l : List UInt8) : ∀ n ∈ (oneW2 l).2.2, isL (n : Int) = true := by
  unfold oneW2
  cases h : oneD l with
  | none => simp
  | some p =>
    obtain ⟨_, rfl⟩ := one_hit h
    exact rdL_is l
theorem fdW_is : ∀ (l : List UInt8) (k : Nat), ∀ n ∈ (fdW l k).2.1, isL (n : Int) = true
  | [], k, n, h => by simp [fdW] at h
  | a :: r, k, n, h => by
    unfold fdW at h
    split at h
    · exact rdL_is (a :: r) n h
    · exact fdW_is r (k + 1) n h
theorem pcF_is : ∀ (f : Nat) (bw : Bool) (l : List UInt8), ∀ n ∈ flP (pcF f bw l), isL (n : Int) = true
  | 0, bw, l, n, h => by simp [pcF, flP] at h
  | f + 1, bw, l, n, h => by
    unfold pcF at h
    split at h
    · simp [flP] at h
    · rw [flP_append, flP_append, List.mem_append, List.mem_append] at h
      rcases h with (h | h) | h
      · split at h
        · simp only [flP, List.flatMap_cons, List.flatMap_nil, List.append_nil] at h
          exact lettersL_is _ n h
        · simp [flP] at h
      · split at h
        · simp only [flP, List.flatMap_cons, List.flatMap_nil, List.append_nil] at h
          exact fdW_is l 0 n h
        · simp [flP] at h
      · exact pcF_is f true _ n h
/-- One, the document's, as a row. -/
theorem refOneR_any (s : ByteArray) (w : World) (hs : s.size ≤ 4000000) :
    Calls Tryz.prog 10 #[.string s] w fun e w' => (∃ v, e = .returned (.tuple #[v, .string (bts (oneW2 s.data.toList).2.1), .int .i64 ((oneW2 s.data.toList).1 : Nat)]) ∧ RowI w' v (ints (oneW2 s.data.toList).2.2)) ∧ Below w.heap.size w w' := by
  refine (refOneW_any s w hs).mono ?_
  rintro e w' ⟨⟨hno, rfl⟩ | ⟨p, v, hy, rfl, ho⟩, hb⟩
  · refine ⟨⟨.slice none 0 0, ?_, ?_⟩, hb⟩
    · unfold oneW2; rw [hno]; rfl
    · unfold oneW2; rw [hno]; exact ⟨none, 0, rfl, by simp [ints], .inl rfl⟩
  · have hi := oneW2_is s.data.toList
    have he : oneW2 s.data.toList = (0, p.2, p.1) := by unfold oneW2; rw [hy]
    rw [he] at hi ⊢
    exact ⟨⟨v, rfl, own_rowI ho hi⟩, hb⟩

set_option maxHeartbeats 2000000 in
set_option maxRecDepth 100000 in
theorem wordReads_walk (s : ByteArray) (w : World) (ht : TabW w) (hs : s.size ≤ 1048576) :
    Calls Tryz.prog 3 #[.string s] w fun e w' => e = .returned (.bool true) ∧ Below w.heap.size w w' := by
  have HT := hide ht
  have H1 := hide (fun W (h : TabW W) => one_word s W h.tab h.err (by omega))
  have H2 := hide (fun W => refOneR_any s W (by omega))
  have HL := hide livesW_any
  have H3 := hide (fun W (h : TabW W) => decode_word s W h.tab h.err h.max (by omega))
  have H4 := hide (fun W => refDecodeW_any s W hs)
  have H5 := hide (fun W (h : TabW W) => words_word s W h.tab h.err h.max (by omega))
  have H6 := hide (fun W => refWordsW_any s W hs)
  rw [oneW_same] at H1
  simp only at H1
  have HI1 := hide (oneW2_is s.data.toList)
  have HI3 : Hid (∀ n ∈ flP (pcW s.data.toList), isL (n : Int) = true) := hide (pcF_is _ _ _)
  have hfl : (pcW s.data.toList).flatMap (·.1) = flP (pcW s.data.toList) := rfl
  rw [hfl] at H3
  have hle : (ints (flP (pcW s.data.toList))).length ≤ 9223372036854775807 := by
    have := pcW_few s.data.toList
    rw [ints_len]
    unfold flP
    rw [sizeL] at this
    omega
  have hlo : (ints (oneW2 s.data.toList).2.2).length ≤ 9223372036854775807 := by
    have h1 := oneW_same s.data.toList
    have h2 : (oneW s.data.toList).1 = (oneW2 s.data.toList).2.2 := congrArg Prod.fst h1
    have h3 := rdL_le decR_few s.data.toList
    have h4 := rdN_le s.data.toList
    rw [sizeL] at h4
    rw [ints_len, ← h2]
    unfold oneW
    split
    · simp
    · simp only; omega
  generalize flP (pcW s.data.toList) = FL at H3 H4 HI3 hle
  generalize wdN (pcW s.data.toList) = WN at H5 H6
  generalize (oneW2 s.data.toList).2.2 = OL at H1 H2 HI1 hlo
  generalize bts (oneW2 s.data.toList).2.1 = OT at H1 H2
  generalize (oneW2 s.data.toList).1 = ON at H1 H2
  have hbb : (OT.toList == OT.toList) = true := by simp
  clear ht hfl
  go_enter Tryz.func3, Tryz.ntmps3
  go_wp2_with fail
  refine (unhide H1 _ (unhide HT)).mono ?_
  rintro e w1 ⟨v1, rfl, o1, b1⟩
  have HV1 := hide (own_rowI o1 (unhide HI1))
  have HT1 := hide ((unhide HT).below b1)
  have HB1 := hide b1
  clear o1 b1 H1
  go_wp2_with fail
  refine (unhide H2 _).mono ?_
  rintro e w2 ⟨⟨v2, rfl, o2⟩, b2⟩
  have HV2 := hide o2
  have HV1b := hide ((unhide HV1).below b2)
  have HT2 := hide ((unhide HT1).below b2)
  have HB2 := hide (belows' (unhide HB1) b2)
  clear o2 b2 H2 HV1
  go_wp2_with fail
  refine (unhide HL _ (unhide HT2)).mono ?_
  rintro e w3 ⟨rfl, b3⟩
  have HV2c := hide ((unhide HV2).below b3)
  have HV1c := hide ((unhide HV1b).below b3)
  have HT3 := hide ((unhide HT2).below b3)
  have HB3 := hide (belows' (unhide HB2) b3)
  clear b3 HV2 HV1b
  go_wp2_with fail
  refine (unhide H3 _ (unhide HT3)).mono ?_
  rintro e w4 ⟨v4, rfl, o4, b4⟩
  have HV4 := hide (own_rowI o4 (unhide HI3))
  have HV2d := hide ((unhide HV2c).below b4)
  have HV1d := hide ((unhide HV1c).below b4)
  have HT4 := hide ((unhide HT3).below b4)
  have HB4 := hide (belows' (unhide HB3) b4)
  clear o4 b4 H3 HV2c HV1c
  go_wp2_with fail
  refine (unhide H4 _).mono ?_
  rintro e w5 ⟨⟨v5, rfl, o5⟩, b5⟩
  have HV5 := hide o5
  have HV4e := hide ((unhide HV4).below b5)
  have HV2e := hide ((unhide HV2d).below b5)
  have HV1e := hide ((unhide HV1d).below b5)
  have HT5 := hide ((unhide HT4).below b5)
  have HB5 := hide (belows' (unhide HB4) b5)
  clear o5 b5 H4 HV4 HV2d HV1d
  have HS1 := hide (same_any _ _ _ _ w5 (unhide HV4e) (unhide HV5) hle)
  rw [decide_eq_true rfl] at HS1
  go_wp2_with fail
  refine (unhide HS1).mono ?_
  rintro e w6 ⟨rfl, b6⟩
  have HV2f := hide ((unhide HV2e).below b6)
  have HV1f := hide ((unhide HV1e).below b6)
  have HT6 := hide ((unhide HT5).below b6)
  have HB6 := hide (belows' (unhide HB5) b6)
  clear b6 HS1 HV2e HV1e HV4e HV5
  go_wp2_with fail
  refine (unhide H5 _ (unhide HT6)).mono ?_
  rintro e w7 ⟨rfl, b7⟩
  have HV2g := hide ((unhide HV2f).below b7)
  have HV1g := hide ((unhide HV1f).below b7)
  have HB7 := hide (belows' (unhide HB6) b7)
  clear b7 H5 HV2f HV1f
  go_wp2_with fail
  refine (unhide H6 _).mono ?_
  rintro e w8 ⟨rfl, b8⟩
  have HV2h := hide ((unhide HV2g).below b8)
  have HV1h := hide ((unhide HV1g).below b8)
  have HB8 := hide (belows' (unhide HB7) b8)
  clear b8 H6 HV2g HV1g
  have HS2 := hide (same_any _ _ _ _ w8 (unhide HV1h) (unhide HV2h) hlo)
  rw [decide_eq_true rfl] at HS2
  have hww : ((WN : Int) == (WN : Int)) = true := by simp
  go_wp2_with fail
  refine (unhide HS2).mono ?_
  rintro e w9 ⟨rfl, b9⟩
  have HB9 := hide (belows' (unhide HB8) b9)
  clear b9 HS2
  have hoo : ((ON : Int) == (ON : Int)) = true := by simp
  go_wp2
  go_ret
  exact ⟨by first | rfl | simp, unhide HB9⟩
end Go.Proofs.YtdallfakfhajdaaGreatDoor
