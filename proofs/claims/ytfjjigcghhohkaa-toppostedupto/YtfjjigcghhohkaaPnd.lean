/-
  What a packed list's reader does, over this seat's program: rest.
-/
import Derived.Test.YtfjjigcghhohkaaPnc
import Derived.Test.YtfjjigcghhohkaaMkb
import Derived.Test.YtfjjigcghhohkaaPch
import Derived.Deep.Cut
set_option linter.unusedVariables false
namespace Go.Proofs.Ytfjjigcghhohkaa
open Go.RowKit Go.Proofs.Num Go.Proofs.Dct Go.Proofs.Pna

theorem Blk.but {w w' : World} {B D : Nat} {t : TypeId} {cs : Array Value} (h : Blk w B t cs) (hb : But D w w') (hn : B ≠ D) : Blk w' B t cs := by
  have := hb.block B (Blk.lt h) hn
  unfold Blk at *
  rw [this]
  exact h
theorem Rdr.but {w w' : World} {B D : Nat} {T : ByteArray} {r : RS} (h : Rdr w B T r) (hb : But D w w') (hn : B ≠ D) : Rdr w' B T r := Blk.but h hb hn
theorem But.far {B D : Nat} {w U V : World} (h : But B w U) (h2 : But D U V) (hD : w.heap.size ≤ D) : But B w V :=
  ⟨h2.os.trans h.os, h2.tape.trans h.tape, h2.output.trans h.output, Nat.le_trans h.size h2.size, fun k hk hn => (h2.block k (by have := h.size; omega) (by omega)).trans (h.block k hk hn)⟩
theorem restS_eq {T : List UInt8} {r r1 : RS} {n many : Nat} (hn : n = (numS T r).1) (hr : r1 = (numS T r).2) :
    restS T r many = ((restF (innerT T r1 n) many ⟨0, r1.least, r1.er⟩).1, { failS r1 (endS (decide (n ≤ (T.drop r1.pos).length)) n (restF (innerT T r1 n) many ⟨0, r1.least, r1.er⟩).2).er with
      pos := r1.pos + (endS (decide (n ≤ (T.drop r1.pos).length)) n (restF (innerT T r1 n) many ⟨0, r1.least, r1.er⟩).2).pos, least := (endS (decide (n ≤ (T.drop r1.pos).length)) n (restF (innerT T r1 n) many ⟨0, r1.least, r1.er⟩).2).least }) := by
  subst hn hr
  rfl
theorem u32InfoN : (Try.prog.info? 31).map (fun i => (i.zero, i.size, i.bytes)) = some (some (.int .u32 0), 1, 4) := by kernel_rfl
theorem flat32_len (l : List Nat) : (flatG cells32 l).length = l.length := by
  induction l with
  | nil => rfl
  | cons a r ih =>
    simp only [flatG, List.flatMap_cons, List.length_append, List.length_cons] at ih ⊢
    rw [ih]
    simp [cells32]
    omega
theorem flat32_snoc (l : List Nat) (n : Nat) : flatG cells32 (l ++ [n]) = flatG cells32 l ++ [.int .u32 (n : Int)] := by simp [flatG, cells32]
theorem slice_uptoU (s : ByteArray) (n : Nat) (h : n ≤ s.size) (w : World) : (Instr.slice 9 (.string s) none (some (.int .u64 (n : Int))) none).run Try.prog w = .ok (.string (s.extract 0 n)) w := by
  have := run_slice_string_h (P := Try.prog) w 9 s Try.underlying9 .u64 (n : Int) (by omega) (by omega)
  rwa [show (n : Int).toNat = n from rfl] at this
theorem endS_five {n : Nat} {i : RS} (h : i.er = 5) : endS true n i = if i.pos = n then { i with er := 7 } else failS { i with er := 7 } 7 := by
  have e : (if i.er = 5 ∧ true = true then ({ i with er := 7 } : RS) else i) = { i with er := 7 } := if_pos ⟨h, rfl⟩
  unfold endS
  rw [e]
  simp only
  by_cases hp : i.pos = n
  · rw [if_neg (by simpa using hp), if_pos hp]
  · rw [if_pos hp, if_neg hp]
theorem endS_else {n : Nat} {i : RS} {w : Bool} (h : ¬ (i.er = 5 ∧ w = true)) : endS w n i = if i.pos = n then i else failS i 7 := by
  have e : (if i.er = 5 ∧ w = true then ({ i with er := 7 } : RS) else i) = i := if_neg h
  unfold endS
  rw [e]
  simp only
  by_cases hp : i.pos = n
  · rw [if_neg (by simpa using hp), if_pos hp]
  · rw [if_pos hp, if_neg hp]
/-- A row that is full is the call's own. -/
theorem own_full {w : World} {C B n : Nat} {l : List Nat} (h : Blk w C 31 (fillB (flatG cells32 l) n (.int .u32 0))) (hl : l.length = n) (hB : B ≤ C) (hn : n ≤ 4194304) : w.ownsRow B 31 1 (.slice (some ⟨C, 0, none⟩) n n) n (flatG cells32 l) := by
  have hfl : (flatG cells32 l).length = n := by rw [← hl]; clear h hl hn; induction l with | nil => rfl | cons a r ih => simp only [flatG, List.flatMap_cons, List.length_append, List.length_cons] at ih ⊢; rw [ih]; simp [cells32]; omega
  rw [fillB_all hfl] at h
  refine ⟨by rw [hfl]; omega, .inr ⟨C, n, (flatG cells32 l).toArray, rfl, hB, h, Nat.le_refl _, ?_, ?_, ?_⟩⟩
  · simp [maxLen]; omega
  · simp [hfl]
  · simp only [Nat.mul_one]; rw [List.take_of_length_le (by rw [hfl]; exact Nat.le_refl _)]

set_option maxHeartbeats 4000000 in
set_option maxRecDepth 100000 in
theorem rrest_any (B : Nat) (T : ByteArray) (r : RS) (many : Nat) (w : World) (h : Rdr w B T r) (hi : In T.data.toList r) (hT : T.size ≤ 140737488355328) (hm : many ≤ 32) :
    Calls Try.prog 50 #[.pointer (some ⟨B, 0, none⟩), .int .i64 (many : Int)] w fun v w' => (∃ x, v = .returned x ∧ w'.ownsRow w.heap.size 31 1 x many (flatG cells32 (restS T.data.toList r many).1)) ∧ Rdr w' B T (restS T.data.toList r many).2 ∧ But B w w' := by
  have hp := hi.pos
  rw [sizeL] at hp
  have HN := hide (rnumber_any B T r w h hp hT)
  have hin := hi.num
  have hlt := numS_lt T.data.toList r
  have hBl := Blk.lt h
  have HRS : Hid (restS T.data.toList r many = restS T.data.toList r many) := hide rfl
  go_enter Try.func50, Try.ntmps50
  go_wp2_with fail
  refine (unhide HN).mono ?_
  rintro v w1 ⟨rfl, h1, b1⟩
  obtain ⟨n, hn⟩ : ∃ n, n = (numS T.data.toList r).1 := ⟨_, rfl⟩
  obtain ⟨r1, hr1⟩ : ∃ r1, r1 = (numS T.data.toList r).2 := ⟨_, rfl⟩
  rw [← hr1] at h1 hin
  rw [← hn] at hlt ⊢
  have HDEF := hide (And.intro hn hr1)
  have HR1 := hide h1
  have c0 : w1.cell? ⟨B, 0, none⟩ = some (.string T) := (Blk.cell h1 0).trans rfl
  have c1 : w1.cell? ⟨B, 1, none⟩ = some (.int .i64 (r1.pos : Int)) := (Blk.cell h1 1).trans rfl
  have c2 : w1.cell? ⟨B, 2, none⟩ = some (.int .u64 (r1.least : Int)) := (Blk.cell h1 2).trans rfl
  have c3 : w1.cell? ⟨B, 3, none⟩ = some (.int .i64 (r1.er : Int)) := (Blk.cell h1 3).trans rfl
  have hp1 := hin.pos
  rw [sizeL] at hp1
  have hsl := slice_from T (r1.pos : Int) r1.pos rfl hp1
  have ne0 := World.new_ne w1 _ c0
  have ne1 := World.new_ne w1 _ c1
  have ne2 := World.new_ne w1 _ c2
  have ne3 := World.new_ne w1 _ c3
  have HB1 := hide b1
  have HIN := hide hin
  clear h h1 b1 hn hr1 hi hp HN hin
  generalize hPP : (r1.pos : Int) = PP at c1 hsl
  generalize hLL : (r1.least : Int) = LL at c2
  generalize hEE : (r1.er : Int) = EE at c3
  obtain ⟨T1, hT1⟩ : ∃ T1, T1 = T.extract r1.pos T.size := ⟨_, rfl⟩
  rw [← hT1] at hsl
  have HT1L : Hid (T1.data.toList = T.data.toList.drop r1.pos) := hide (by rw [hT1, toList_from])
  have HLLE := hide hLL
  have HEEE := hide hEE
  have HPPE := hide hPP
  have hT1z : T1.size ≤ T.size := by rw [← sizeL, unhide HT1L, List.length_drop, sizeL]; omega
  obtain ⟨i0, hi, hz0, hz1, hz2'⟩ := info_parts u32InfoN
  clear hPP hLL hEE hT1
  go_wp2
  go_region_held3 (fun w' => w'.cell? ⟨B, 0, none⟩ = some (.string T) ∧ w'.cell? ⟨B, 1, none⟩ = some (.int .i64 PP) ∧ w'.cell? ⟨B, 2, none⟩ = some (.int .u64 LL) ∧ w'.cell? ⟨B, 3, none⟩ = some (.int .i64 EE)) (go_keep) (fail)
  obtain ⟨D, hD⟩ : ∃ D, D = w1.heap.size := ⟨_, rfl⟩
  have HDN := hide (Blk.new w1 66 #[.string T1, .int .i64 0, .int .u64 LL, .int .i64 EE])
  have HU1 : Hid (Below w1.heap.size w1 (w1.alloc (.cells #[.string T1, .int .i64 0, .int .u64 LL, .int .i64 EE] 66)).drew) := hide ((Below.refl _ w1).alloc (Nat.le_refl _) _).drew
  obtain ⟨U, hU⟩ : ∃ U, U = (w1.alloc (.cells #[.string T1, .int .i64 0, .int .u64 LL, .int .i64 EE] 66)).drew := ⟨_, rfl⟩
  have HDU : Hid (Rdr U D T1 ⟨0, r1.least, r1.er⟩) := hide (by
    have h := unhide HDN
    rw [hU, hD]
    unfold Rdr
    rw [unhide HLLE, unhide HEEE]
    exact h)
  rw [← hU] at HU1 ⊢
  rw [← hD] at HU1 ⊢
  have HBU : Hid (But B w1 U) := hide (But.of_below (by rw [← hD]; exact unhide HU1))
  have HRU : Hid (Rdr U B T r1) := hide ((unhide HR1).below (by rw [← hD]; exact unhide HU1))
  have HDW := hide hD
  have hBD : B < D := by rw [hD]; exact Blk.lt (unhide HR1)
  clear hU hD HU1 HDN HR1 c0 c1 c2 c3 ne0 ne1 ne2 ne3 hsl
  have d0 : U.cell? ⟨D, 0, none⟩ = some (.string T1) := (Blk.cell (unhide HDU) 0).trans rfl
  have g0 := Blk.frozen (unhide HDU) 0
  by_cases hwh : n ≤ T1.size
  · have hwh' : (n : Int) ≤ (T1.size : Int) := by omega
    obtain ⟨T2, hT2⟩ : ∃ T2, T2 = T1.extract 0 n := ⟨_, rfl⟩
    have HTX : Hid (T2.data.toList = innerT T.data.toList r1 n) := hide (by
      rw [hT2, toList_upto, unhide HT1L]
      unfold innerT
      rw [if_pos (by rw [← unhide HT1L, sizeL]; exact hwh)])
    have HWH : Hid (decide (n ≤ (T.data.toList.drop r1.pos).length) = true) := hide (decide_eq_true (by rw [← unhide HT1L, sizeL]; exact hwh))
    have hz2 : T2.size ≤ T.size := by rw [← sizeL, unhide HTX]; have := innerT_len T.data.toList r1 n; rw [List.length_drop, sizeL] at this; omega
    have HIN0 : Hid (In T2.data.toList ⟨0, r1.least, r1.er⟩) := hide ⟨Nat.zero_le _, (unhide HIN).least⟩
    obtain ⟨V, hV⟩ : ∃ V, V = U.setCell ⟨D, 0, none⟩ (.string T2) := ⟨_, rfl⟩
    have HDV : Hid (Rdr V D T2 ⟨0, r1.least, r1.er⟩) := hide (by rw [hV]; exact (unhide HDU).setText T2)
    have HRV : Hid (Rdr V B T r1) := hide (by rw [hV]; exact (unhide HRU).but (But.set D U 0 (.string T2)) (by omega))
    have HBV : Hid (But B w1 V) := hide (by rw [hV]; exact (unhide HBU).far (But.set D U 0 (.string T2)) (by rw [← unhide HDW]; omega))
    have hsl2 := slice_uptoU T1 n hwh
    rw [← hT2] at hsl2
    clear hT2 HDU HRU HBU
    go_upto_region 6 with (fail)
    rw [← hV]
    clear hV hsl2 d0 g0
    have hmk := makeB_blk (P := Try.prog) V 22 31 i0 (.int .u32 0) Try.underlying22 hi hz0 hz1 rfl many (by omega) (by omega)
    obtain ⟨C, hC⟩ : ∃ C, C = V.heap.size := ⟨_, rfl⟩
    obtain ⟨V1, hV1⟩ : ∃ V1, V1 = V.alloc (.cells (fillB [] many (.int .u32 0)) 31) := ⟨_, rfl⟩
    have bV1 : Below V.heap.size V V1 := by rw [hV1]; exact (Below.refl _ V).alloc (Nat.le_refl _) _
    have HC1 : Hid (Blk V1 C 31 (fillB (flatG cells32 []) many (.int .u32 0))) := hide (by rw [hV1, hC]; exact Blk.new V _ _)
    have HD1 := hide ((unhide HDV).below bV1)
    have HR1 := hide ((unhide HRV).below bV1)
    have HB1' := hide ((unhide HBV).trans (But.of_below bV1))
    have hDC : D < C := by rw [hC]; exact Blk.lt (unhide HDV)
    rw [← hC, ← hV1] at hmk
    clear bV1 hC hV1 HDV HRV HBV
    go_wp2
    go_loopw [9, 46] (fun x z wr => ∃ k : Nat, z = .int .i64 (k : Int) ∧ k ≤ many ∧ Hid (Rdr wr D T2 (restF T2.data.toList k ⟨0, r1.least, r1.er⟩).2) ∧ Hid (Rdr wr B T r1) ∧ Hid (Blk wr C 31 (fillB (flatG cells32 (restF T2.data.toList k ⟨0, r1.least, r1.er⟩).1) many (.int .u32 0))) ∧ Hid (But B w1 wr)) (fun _ z _ => many - (intOf z).toNat)
    case atStart => exact ⟨0, rfl, Nat.zero_le _, HD1, HR1, HC1, HB1'⟩
    case round =>
      obtain ⟨k, rfl, hk, HDk, HRk, HCk, HBk⟩ := hrel
      have hink := In.restF k (T := T2.data.toList) (unhide HIN0)
      by_cases hkm : k < many
      · have hkm' : (k : Int) < (many : Int) := by omega
        have hnx := restF_next T2.data.toList k ⟨0, r1.least, r1.er⟩
        have hlen := restF_len T2.data.toList k ⟨0, r1.least, r1.er⟩
        generalize hst : restF T2.data.toList k ⟨0, r1.least, r1.er⟩ = st at HDk HCk hink hnx hlen
        obtain ⟨acc, rk⟩ := st
        simp only at HDk HCk hink hnx hlen
        have hpk := hink.pos
        rw [sizeL] at hpk
        have HNk := hide (rnumber_any D T2 rk wr (unhide HDk) hpk (by omega))
        have hlk := hink.num.least
        have hltk := numS_lt T2.data.toList rk
        have hone : oneS T2.data.toList rk = takeS (numS T2.data.toList rk).2 (numS T2.data.toList rk).1 := rfl
        rw [hone] at hnx
        generalize (numS T2.data.toList rk).1 = nk at HNk hltk hnx
        generalize (numS T2.data.toList rk).2 = rk1 at HNk hlk hnx
        have HNX := hide hnx
        have HRk2 := HRk
        have HCk2 := HCk
        have HBk2 := HBk
        have HLN := hide hlen
        clear hst hink hpk hone hnx HDk hlen
        go_wp2_with fail
        refine (unhide HNk).mono ?_
        rintro v w4 ⟨rfl, h4, b4⟩
        have HTk := hide (rtake_any D T2 rk1 nk w4 h4 hltk hlk)
        have HR4 := hide ((unhide HRk2).but b4 (by omega))
        have HC4 := hide ((unhide HCk2).but b4 (by omega))
        have HB4 := hide ((unhide HBk2).far b4 (by rw [← unhide HDW]; omega))
        clear h4 b4 HNk HRk2 HCk2 HBk2 HRk HCk HBk
        go_wp2_with fail
        refine (unhide HTk).mono ?_
        rintro v w5 ⟨rfl, h5, b5⟩
        have HR5 := hide ((unhide HR4).but b5 (by omega))
        have hC5 := (unhide HC4).but b5 (by omega)
        have HB5 := hide ((unhide HB4).far b5 (by rw [← unhide HDW]; omega))
        have hfc : (flatG cells32 acc).length = k := by rw [flat32_len]; exact unhide HLN
        have cC : w5.cell? ⟨C, k, none⟩ = some (.int .u32 0) := by rw [Blk.cell hC5, ← hfc]; exact fillB_cell (by omega)
        have fC := Blk.frozen hC5 k
        have hset := Blk.set hC5 k (.int .u32 ((takeS rk1 nk).1 : Int))
        rw [← hfc, fillB_set (by omega), hfc] at hset
        have HSET : Hid (Blk (w5.setCell ⟨C, k, none⟩ (.int .u32 ((takeS rk1 nk).1 : Int))) C 31 (fillB (flatG cells32 (acc ++ [(takeS rk1 nk).1])) many (.int .u32 0))) := hide (by rw [flat32_snoc]; exact hset)
        have HD6 := hide (Blk.but h5 (But.set C w5 k (.int .u32 ((takeS rk1 nk).1 : Int))) (by omega))
        have HR6 := hide ((unhide HR5).but (But.set C w5 k (.int .u32 ((takeS rk1 nk).1 : Int))) (by omega))
        have HB6 := hide ((unhide HB5).far (But.set C w5 k (.int .u32 ((takeS rk1 nk).1 : Int))) (by rw [← unhide HDW]; omega))
        clear h5 b5 HTk hC5 hfc hset HR4 HC4 HB4 HR5 HB5
        generalize ((takeS rk1 nk).1 : Int) = tv at *
        go_wp2
        exact ⟨⟨k + 1, by go_num, by omega, hide (by rw [unhide HNX]; exact unhide HD6), HR6, hide (by rw [unhide HNX]; exact unhide HSET), HB6⟩, by simp [intOf]; omega⟩
      · have hkm' : ¬ (k : Int) < (many : Int) := by omega
        have hke : k = many := by omega
        subst hke
        have hlen := restF_len T2.data.toList k ⟨0, r1.least, r1.er⟩
        have hreq := restS_eq (many := k) (unhide HDEF).1 (unhide HDEF).2
        rw [← unhide HTX] at hreq
        generalize hst : restF T2.data.toList k ⟨0, r1.least, r1.er⟩ = st at HDk HCk hink hlen hreq
        obtain ⟨acc, i0r⟩ := st
        simp only at HDk HCk hink hlen hreq
        have hpi := hink.pos
        have hli := hink.least
        rw [sizeL] at hpi
        rw [unhide HWH] at hreq
        have HREQ := hide hreq
        have HOWN := hide hlen
        clear hst hink hreq hlen
        have k3 : wr.cell? ⟨D, 3, none⟩ = some (.int .i64 (i0r.er : Int)) := (Blk.cell (unhide HDk) 3).trans rfl
        have k1 : wr.cell? ⟨D, 1, none⟩ = some (.int .i64 (i0r.pos : Int)) := (Blk.cell (unhide HDk) 1).trans rfl
        have j3 := Blk.frozen (unhide HDk) 3
        by_cases h5 : i0r.er = 5
        · have e5 : ((i0r.er : Int) == 5) = true := by rw [h5]; rfl
          have HE : Hid (endS true n i0r = if i0r.pos = n then { i0r with er := 7 } else failS { i0r with er := 7 } 7) := hide (endS_five h5)
          obtain ⟨X, hX⟩ : ∃ X, X = wr.setCell ⟨D, 3, none⟩ (.int .i64 7) := ⟨_, rfl⟩
          have HDX : Hid (Rdr X D T2 { i0r with er := 7 }) := hide (by rw [hX]; exact (unhide HDk).setEr 7)
          have HRX : Hid (Rdr X B T r1) := hide (by rw [hX]; exact (unhide HRk).but (But.set D wr 3 (.int .i64 7)) (by omega))
          have HCX : Hid (Blk X C 31 (fillB (flatG cells32 acc) k (.int .u32 0))) := hide (by rw [hX]; exact (unhide HCk).but (But.set D wr 3 (.int .i64 7)) (by omega))
          have HBX : Hid (But B w1 X) := hide (by rw [hX]; exact (unhide HBk).far (But.set D wr 3 (.int .i64 7)) (by rw [← unhide HDW]; omega))
          clear HDk HRk HCk HBk h5
          go_upto_region 14 with (fail)
          rw [← hX]
          clear hX k3 k1 j3 e5
          have z1 : X.cell? ⟨D, 1, none⟩ = some (.int .i64 (i0r.pos : Int)) := (Blk.cell (unhide HDX) 1).trans rfl
          by_cases hps : i0r.pos = n
          · have ep : ((i0r.pos : Int) != (n : Int)) = false := by rw [hps]; simp
            obtain ⟨i, hiE⟩ : ∃ i, i = { i0r with er := 7 } := ⟨_, rfl⟩
            have HEND : Hid (endS true n i0r = i) := hide (by rw [hiE]; rw [unhide HE, if_pos hps])
            have hipos : i.pos ≤ T.size := by rw [hiE]; show i0r.pos ≤ _; omega
            rw [← hiE] at HDX
            clear hiE hps
            have y3 : X.cell? ⟨D, 3, none⟩ = some (.int .i64 (i.er : Int)) := (Blk.cell (unhide HDX) 3).trans rfl
            have HFB := hide (rfail_any B T r1 i.er X (unhide HRX))
            go_wp2_with fail
            refine (unhide HFB).mono ?_
            rintro v w8 ⟨rfl, h8, b8⟩
            have hD8 := (unhide HDX).but b8 (by omega)
            have HC8 := hide ((unhide HCX).but b8 (by omega))
            have HB8 := hide ((unhide HBX).trans b8)
            have q1 : w8.cell? ⟨B, 1, none⟩ = some (.int .i64 ((failS r1 i.er).pos : Int)) := (Blk.cell h8 1).trans rfl
            rw [(failS_pos r1 i.er).1] at q1
            have f1 := Blk.frozen h8 1
            have f2 := Blk.frozen h8 2
            have q2 : w8.cell? ⟨B, 2, none⟩ = some (.int .u64 ((failS r1 i.er).least : Int)) := (Blk.cell h8 2).trans rfl
            have p1 : w8.cell? ⟨D, 1, none⟩ = some (.int .i64 (i.pos : Int)) := (Blk.cell hD8 1).trans rfl
            have p2 : w8.cell? ⟨D, 2, none⟩ = some (.int .u64 (i.least : Int)) := (Blk.cell hD8 2).trans rfl
            have HR8 := hide h8
            have hDB : D ≠ B := by omega
            have hsumi : (r1.pos : Int) + (i.pos : Int) ≤ 9223372036854775807 := by omega
            obtain ⟨PB, hPB⟩ : ∃ PB : Nat, r1.pos = PB := ⟨_, rfl⟩
            rw [hPB] at q1 hsumi
            have HPB := hide hPB
            generalize ((failS r1 i.er).least : Int) = lz at q2
            clear HFB hD8 h8 b8 HDX HRX HCX HBX hPB y3
            go_wp2
            have q1' : w8.drew.cell? ⟨B, 1, none⟩ = some (.int .i64 (PB : Int)) := q1
            have f1' : w8.drew.frozen? ⟨B, 1, none⟩ = false := f1
            have p1' : w8.drew.cell? ⟨D, 1, none⟩ = some (.int .i64 (i.pos : Int)) := p1
            go_region_with (fail)
            all_goals
              clear q1' f1' p1'
              (try go_simp)
              go_wp2
              go_ret
              rw [show (PB : Int) + (i.pos : Int) = ((r1.pos + i.pos : Nat) : Int) by have := unhide HPB; omega]
              have hR9 := Rdr.setLeast (Rdr.setPos (unhide HR8) (r1.pos + i.pos)) i.least
              have hC9 := Blk.but (Blk.but (unhide HC8) (But.set B w8 1 (.int .i64 ((r1.pos + i.pos : Nat) : Int))) (by omega)) (But.set B _ 2 (.int .u64 (i.least : Int))) (by omega)
              have hB9 := (unhide HB1).trans ((unhide HB8).trans ((But.set B w8 1 (.int .i64 ((r1.pos + i.pos : Nat) : Int))).trans (But.set B _ 2 (.int .u64 (i.least : Int)))))
              have hCw : w.heap.size ≤ C := by have := (unhide HB1).size; have := unhide HDW; omega
              refine ⟨⟨_, rfl, ?_⟩, ?_, ?_⟩
              · rw [unhide HREQ]; exact own_full hC9 (unhide HOWN) hCw (by omega)
              · rw [unhide HREQ, unhide HEND]; exact hR9
              · exact ⟨hB9.os, hB9.tape, hB9.output, hB9.size, hB9.block⟩
          · have ep : ((i0r.pos : Int) != (n : Int)) = true := by rw [bne_iff_ne]; omega
            have HFD := hide (rfail_any D T2 { i0r with er := 7 } 7 X (unhide HDX))
            obtain ⟨i, hiE⟩ : ∃ i, i = failS { i0r with er := 7 } 7 := ⟨_, rfl⟩
            have HEND : Hid (endS true n i0r = i) := hide (by rw [hiE]; rw [unhide HE, if_neg hps])
            have hipos : i.pos ≤ T.size := by rw [hiE, (failS_pos _ 7).1]; show i0r.pos ≤ _; omega
            rw [← hiE] at HFD
            clear hiE hps
            go_wp2_with fail
            refine (unhide HFD).mono ?_
            rintro v w7 ⟨rfl, h7, b7⟩
            have HD7 := hide h7
            have HR7 := hide ((unhide HRX).but b7 (by omega))
            have HC7 := hide ((unhide HCX).but b7 (by omega))
            have HB7 := hide ((unhide HBX).far b7 (by rw [← unhide HDW]; omega))
            clear h7 b7 HFD HDX HRX HCX HBX
            have y3 : w7.cell? ⟨D, 3, none⟩ = some (.int .i64 (i.er : Int)) := (Blk.cell (unhide HD7) 3).trans rfl
            have HFB := hide (rfail_any B T r1 i.er w7 (unhide HR7))
            go_wp2_with fail
            refine (unhide HFB).mono ?_
            rintro v w8 ⟨rfl, h8, b8⟩
            have hD8 := (unhide HD7).but b8 (by omega)
            have HC8 := hide ((unhide HC7).but b8 (by omega))
            have HB8 := hide ((unhide HB7).trans b8)
            have q1 : w8.cell? ⟨B, 1, none⟩ = some (.int .i64 ((failS r1 i.er).pos : Int)) := (Blk.cell h8 1).trans rfl
            rw [(failS_pos r1 i.er).1] at q1
            have f1 := Blk.frozen h8 1
            have f2 := Blk.frozen h8 2
            have q2 : w8.cell? ⟨B, 2, none⟩ = some (.int .u64 ((failS r1 i.er).least : Int)) := (Blk.cell h8 2).trans rfl
            have p1 : w8.cell? ⟨D, 1, none⟩ = some (.int .i64 (i.pos : Int)) := (Blk.cell hD8 1).trans rfl
            have p2 : w8.cell? ⟨D, 2, none⟩ = some (.int .u64 (i.least : Int)) := (Blk.cell hD8 2).trans rfl
            have HR8 := hide h8
            have hDB : D ≠ B := by omega
            have hsumi : (r1.pos : Int) + (i.pos : Int) ≤ 9223372036854775807 := by omega
            obtain ⟨PB, hPB⟩ : ∃ PB : Nat, r1.pos = PB := ⟨_, rfl⟩
            rw [hPB] at q1 hsumi
            have HPB := hide hPB
            generalize ((failS r1 i.er).least : Int) = lz at q2
            clear HFB hD8 h8 b8 HD7 HR7 HC7 HB7 hPB y3
            go_wp2
            have q1' : w8.drew.cell? ⟨B, 1, none⟩ = some (.int .i64 (PB : Int)) := q1
            have f1' : w8.drew.frozen? ⟨B, 1, none⟩ = false := f1
            have p1' : w8.drew.cell? ⟨D, 1, none⟩ = some (.int .i64 (i.pos : Int)) := p1
            go_region_with (fail)
            all_goals
              clear q1' f1' p1'
              (try go_simp)
              go_wp2
              go_ret
              rw [show (PB : Int) + (i.pos : Int) = ((r1.pos + i.pos : Nat) : Int) by have := unhide HPB; omega]
              have hR9 := Rdr.setLeast (Rdr.setPos (unhide HR8) (r1.pos + i.pos)) i.least
              have hC9 := Blk.but (Blk.but (unhide HC8) (But.set B w8 1 (.int .i64 ((r1.pos + i.pos : Nat) : Int))) (by omega)) (But.set B _ 2 (.int .u64 (i.least : Int))) (by omega)
              have hB9 := (unhide HB1).trans ((unhide HB8).trans ((But.set B w8 1 (.int .i64 ((r1.pos + i.pos : Nat) : Int))).trans (But.set B _ 2 (.int .u64 (i.least : Int)))))
              have hCw : w.heap.size ≤ C := by have := (unhide HB1).size; have := unhide HDW; omega
              refine ⟨⟨_, rfl, ?_⟩, ?_, ?_⟩
              · rw [unhide HREQ]; exact own_full hC9 (unhide HOWN) hCw (by omega)
              · rw [unhide HREQ, unhide HEND]; exact hR9
              · exact ⟨hB9.os, hB9.tape, hB9.output, hB9.size, hB9.block⟩
        · have e5 : ((i0r.er : Int) == 5) = false := by rw [beq_eq_false_iff_ne]; omega
          have HE : Hid (endS true n i0r = if i0r.pos = n then i0r else failS i0r 7) := hide (endS_else (by exact fun h => h5 h.1))
          go_upto_region 14 with (fail)
          clear k3 k1 j3 e5 h5
          have z1 : wr.cell? ⟨D, 1, none⟩ = some (.int .i64 (i0r.pos : Int)) := (Blk.cell (unhide HDk) 1).trans rfl
          by_cases hps : i0r.pos = n
          · have ep : ((i0r.pos : Int) != (n : Int)) = false := by rw [hps]; simp
            obtain ⟨i, hiE⟩ : ∃ i, i = i0r := ⟨_, rfl⟩
            have HEND : Hid (endS true n i0r = i) := hide (by rw [hiE]; rw [unhide HE, if_pos hps])
            have hipos : i.pos ≤ T.size := by rw [hiE]; show i0r.pos ≤ _; omega
            rw [← hiE] at HDk
            clear hiE hps
            have y3 : wr.cell? ⟨D, 3, none⟩ = some (.int .i64 (i.er : Int)) := (Blk.cell (unhide HDk) 3).trans rfl
            have HFB := hide (rfail_any B T r1 i.er wr (unhide HRk))
            go_wp2_with fail
            refine (unhide HFB).mono ?_
            rintro v w8 ⟨rfl, h8, b8⟩
            have hD8 := (unhide HDk).but b8 (by omega)
            have HC8 := hide ((unhide HCk).but b8 (by omega))
            have HB8 := hide ((unhide HBk).trans b8)
            have q1 : w8.cell? ⟨B, 1, none⟩ = some (.int .i64 ((failS r1 i.er).pos : Int)) := (Blk.cell h8 1).trans rfl
            rw [(failS_pos r1 i.er).1] at q1
            have f1 := Blk.frozen h8 1
            have f2 := Blk.frozen h8 2
            have q2 : w8.cell? ⟨B, 2, none⟩ = some (.int .u64 ((failS r1 i.er).least : Int)) := (Blk.cell h8 2).trans rfl
            have p1 : w8.cell? ⟨D, 1, none⟩ = some (.int .i64 (i.pos : Int)) := (Blk.cell hD8 1).trans rfl
            have p2 : w8.cell? ⟨D, 2, none⟩ = some (.int .u64 (i.least : Int)) := (Blk.cell hD8 2).trans rfl
            have HR8 := hide h8
            have hDB : D ≠ B := by omega
            have hsumi : (r1.pos : Int) + (i.pos : Int) ≤ 9223372036854775807 := by omega
            obtain ⟨PB, hPB⟩ : ∃ PB : Nat, r1.pos = PB := ⟨_, rfl⟩
            rw [hPB] at q1 hsumi
            have HPB := hide hPB
            generalize ((failS r1 i.er).least : Int) = lz at q2
            clear HFB hD8 h8 b8 HDk HRk HCk HBk hPB y3
            go_wp2
            have q1' : w8.drew.cell? ⟨B, 1, none⟩ = some (.int .i64 (PB : Int)) := q1
            have f1' : w8.drew.frozen? ⟨B, 1, none⟩ = false := f1
            have p1' : w8.drew.cell? ⟨D, 1, none⟩ = some (.int .i64 (i.pos : Int)) := p1
            go_region_with (fail)
            all_goals
              clear q1' f1' p1'
              (try go_simp)
              go_wp2
              go_ret
              rw [show (PB : Int) + (i.pos : Int) = ((r1.pos + i.pos : Nat) : Int) by have := unhide HPB; omega]
              have hR9 := Rdr.setLeast (Rdr.setPos (unhide HR8) (r1.pos + i.pos)) i.least
              have hC9 := Blk.but (Blk.but (unhide HC8) (But.set B w8 1 (.int .i64 ((r1.pos + i.pos : Nat) : Int))) (by omega)) (But.set B _ 2 (.int .u64 (i.least : Int))) (by omega)
              have hB9 := (unhide HB1).trans ((unhide HB8).trans ((But.set B w8 1 (.int .i64 ((r1.pos + i.pos : Nat) : Int))).trans (But.set B _ 2 (.int .u64 (i.least : Int)))))
              have hCw : w.heap.size ≤ C := by have := (unhide HB1).size; have := unhide HDW; omega
              refine ⟨⟨_, rfl, ?_⟩, ?_, ?_⟩
              · rw [unhide HREQ]; exact own_full hC9 (unhide HOWN) hCw (by omega)
              · rw [unhide HREQ, unhide HEND]; exact hR9
              · exact ⟨hB9.os, hB9.tape, hB9.output, hB9.size, hB9.block⟩
          · have ep : ((i0r.pos : Int) != (n : Int)) = true := by rw [bne_iff_ne]; omega
            have HFD := hide (rfail_any D T2 i0r 7 wr (unhide HDk))
            obtain ⟨i, hiE⟩ : ∃ i, i = failS i0r 7 := ⟨_, rfl⟩
            have HEND : Hid (endS true n i0r = i) := hide (by rw [hiE]; rw [unhide HE, if_neg hps])
            have hipos : i.pos ≤ T.size := by rw [hiE, (failS_pos _ 7).1]; show i0r.pos ≤ _; omega
            rw [← hiE] at HFD
            clear hiE hps
            go_wp2_with fail
            refine (unhide HFD).mono ?_
            rintro v w7 ⟨rfl, h7, b7⟩
            have HD7 := hide h7
            have HR7 := hide ((unhide HRk).but b7 (by omega))
            have HC7 := hide ((unhide HCk).but b7 (by omega))
            have HB7 := hide ((unhide HBk).far b7 (by rw [← unhide HDW]; omega))
            clear h7 b7 HFD HDk HRk HCk HBk
            have y3 : w7.cell? ⟨D, 3, none⟩ = some (.int .i64 (i.er : Int)) := (Blk.cell (unhide HD7) 3).trans rfl
            have HFB := hide (rfail_any B T r1 i.er w7 (unhide HR7))
            go_wp2_with fail
            refine (unhide HFB).mono ?_
            rintro v w8 ⟨rfl, h8, b8⟩
            have hD8 := (unhide HD7).but b8 (by omega)
            have HC8 := hide ((unhide HC7).but b8 (by omega))
            have HB8 := hide ((unhide HB7).trans b8)
            have q1 : w8.cell? ⟨B, 1, none⟩ = some (.int .i64 ((failS r1 i.er).pos : Int)) := (Blk.cell h8 1).trans rfl
            rw [(failS_pos r1 i.er).1] at q1
            have f1 := Blk.frozen h8 1
            have f2 := Blk.frozen h8 2
            have q2 : w8.cell? ⟨B, 2, none⟩ = some (.int .u64 ((failS r1 i.er).least : Int)) := (Blk.cell h8 2).trans rfl
            have p1 : w8.cell? ⟨D, 1, none⟩ = some (.int .i64 (i.pos : Int)) := (Blk.cell hD8 1).trans rfl
            have p2 : w8.cell? ⟨D, 2, none⟩ = some (.int .u64 (i.least : Int)) := (Blk.cell hD8 2).trans rfl
            have HR8 := hide h8
            have hDB : D ≠ B := by omega
            have hsumi : (r1.pos : Int) + (i.pos : Int) ≤ 9223372036854775807 := by omega
            obtain ⟨PB, hPB⟩ : ∃ PB : Nat, r1.pos = PB := ⟨_, rfl⟩
            rw [hPB] at q1 hsumi
            have HPB := hide hPB
            generalize ((failS r1 i.er).least : Int) = lz at q2
            clear HFB hD8 h8 b8 HD7 HR7 HC7 HB7 hPB y3
            go_wp2
            have q1' : w8.drew.cell? ⟨B, 1, none⟩ = some (.int .i64 (PB : Int)) := q1
            have f1' : w8.drew.frozen? ⟨B, 1, none⟩ = false := f1
            have p1' : w8.drew.cell? ⟨D, 1, none⟩ = some (.int .i64 (i.pos : Int)) := p1
            go_region_with (fail)
            all_goals
              clear q1' f1' p1'
              (try go_simp)
              go_wp2
              go_ret
              rw [show (PB : Int) + (i.pos : Int) = ((r1.pos + i.pos : Nat) : Int) by have := unhide HPB; omega]
              have hR9 := Rdr.setLeast (Rdr.setPos (unhide HR8) (r1.pos + i.pos)) i.least
              have hC9 := Blk.but (Blk.but (unhide HC8) (But.set B w8 1 (.int .i64 ((r1.pos + i.pos : Nat) : Int))) (by omega)) (But.set B _ 2 (.int .u64 (i.least : Int))) (by omega)
              have hB9 := (unhide HB1).trans ((unhide HB8).trans ((But.set B w8 1 (.int .i64 ((r1.pos + i.pos : Nat) : Int))).trans (But.set B _ 2 (.int .u64 (i.least : Int)))))
              have hCw : w.heap.size ≤ C := by have := (unhide HB1).size; have := unhide HDW; omega
              refine ⟨⟨_, rfl, ?_⟩, ?_, ?_⟩
              · rw [unhide HREQ]; exact own_full hC9 (unhide HOWN) hCw (by omega)
              · rw [unhide HREQ, unhide HEND]; exact hR9
              · exact ⟨hB9.os, hB9.tape, hB9.output, hB9.size, hB9.block⟩
  · have hwh' : ¬ (n : Int) ≤ (T1.size : Int) := by omega
    have HTX : Hid (T1.data.toList = innerT T.data.toList r1 n) := hide (by
      rw [unhide HT1L]
      unfold innerT
      rw [if_neg (by rw [← unhide HT1L, sizeL]; exact hwh)])
    have HWH : Hid (decide (n ≤ (T.data.toList.drop r1.pos).length) = false) := hide (decide_eq_false (by rw [← unhide HT1L, sizeL]; exact hwh))
    have HIN0 : Hid (In T1.data.toList ⟨0, r1.least, r1.er⟩) := hide ⟨Nat.zero_le _, (unhide HIN).least⟩
    obtain ⟨V, hV⟩ : ∃ V, V = U := ⟨_, rfl⟩
    have HDV : Hid (Rdr V D T1 ⟨0, r1.least, r1.er⟩) := hide (by rw [hV]; exact unhide HDU)
    have HRV : Hid (Rdr V B T r1) := hide (by rw [hV]; exact unhide HRU)
    have HBV : Hid (But B w1 V) := hide (by rw [hV]; exact unhide HBU)
    clear HDU HRU HBU
    go_upto_region 6 with (fail)
    rw [← hV]
    clear hV d0 g0
    have hmk := makeB_blk (P := Try.prog) V 22 31 i0 (.int .u32 0) Try.underlying22 hi hz0 hz1 rfl many (by omega) (by omega)
    obtain ⟨C, hC⟩ : ∃ C, C = V.heap.size := ⟨_, rfl⟩
    obtain ⟨V1, hV1⟩ : ∃ V1, V1 = V.alloc (.cells (fillB [] many (.int .u32 0)) 31) := ⟨_, rfl⟩
    have bV1 : Below V.heap.size V V1 := by rw [hV1]; exact (Below.refl _ V).alloc (Nat.le_refl _) _
    have HC1 : Hid (Blk V1 C 31 (fillB (flatG cells32 []) many (.int .u32 0))) := hide (by rw [hV1, hC]; exact Blk.new V _ _)
    have HD1 := hide ((unhide HDV).below bV1)
    have HR1 := hide ((unhide HRV).below bV1)
    have HB1' := hide ((unhide HBV).trans (But.of_below bV1))
    have hDC : D < C := by rw [hC]; exact Blk.lt (unhide HDV)
    rw [← hC, ← hV1] at hmk
    clear bV1 hC hV1 HDV HRV HBV
    go_wp2
    go_loopw [9, 46] (fun x z wr => ∃ k : Nat, z = .int .i64 (k : Int) ∧ k ≤ many ∧ Hid (Rdr wr D T1 (restF T1.data.toList k ⟨0, r1.least, r1.er⟩).2) ∧ Hid (Rdr wr B T r1) ∧ Hid (Blk wr C 31 (fillB (flatG cells32 (restF T1.data.toList k ⟨0, r1.least, r1.er⟩).1) many (.int .u32 0))) ∧ Hid (But B w1 wr)) (fun _ z _ => many - (intOf z).toNat)
    case atStart => exact ⟨0, rfl, Nat.zero_le _, HD1, HR1, HC1, HB1'⟩
    case round =>
      obtain ⟨k, rfl, hk, HDk, HRk, HCk, HBk⟩ := hrel
      have hink := In.restF k (T := T1.data.toList) (unhide HIN0)
      by_cases hkm : k < many
      · have hkm' : (k : Int) < (many : Int) := by omega
        have hnx := restF_next T1.data.toList k ⟨0, r1.least, r1.er⟩
        have hlen := restF_len T1.data.toList k ⟨0, r1.least, r1.er⟩
        generalize hst : restF T1.data.toList k ⟨0, r1.least, r1.er⟩ = st at HDk HCk hink hnx hlen
        obtain ⟨acc, rk⟩ := st
        simp only at HDk HCk hink hnx hlen
        have hpk := hink.pos
        rw [sizeL] at hpk
        have HNk := hide (rnumber_any D T1 rk wr (unhide HDk) hpk (by omega))
        have hlk := hink.num.least
        have hltk := numS_lt T1.data.toList rk
        have hone : oneS T1.data.toList rk = takeS (numS T1.data.toList rk).2 (numS T1.data.toList rk).1 := rfl
        rw [hone] at hnx
        generalize (numS T1.data.toList rk).1 = nk at HNk hltk hnx
        generalize (numS T1.data.toList rk).2 = rk1 at HNk hlk hnx
        have HNX := hide hnx
        have HRk2 := HRk
        have HCk2 := HCk
        have HBk2 := HBk
        have HLN := hide hlen
        clear hst hink hpk hone hnx HDk hlen
        go_wp2_with fail
        refine (unhide HNk).mono ?_
        rintro v w4 ⟨rfl, h4, b4⟩
        have HTk := hide (rtake_any D T1 rk1 nk w4 h4 hltk hlk)
        have HR4 := hide ((unhide HRk2).but b4 (by omega))
        have HC4 := hide ((unhide HCk2).but b4 (by omega))
        have HB4 := hide ((unhide HBk2).far b4 (by rw [← unhide HDW]; omega))
        clear h4 b4 HNk HRk2 HCk2 HBk2 HRk HCk HBk
        go_wp2_with fail
        refine (unhide HTk).mono ?_
        rintro v w5 ⟨rfl, h5, b5⟩
        have HR5 := hide ((unhide HR4).but b5 (by omega))
        have hC5 := (unhide HC4).but b5 (by omega)
        have HB5 := hide ((unhide HB4).far b5 (by rw [← unhide HDW]; omega))
        have hfc : (flatG cells32 acc).length = k := by rw [flat32_len]; exact unhide HLN
        have cC : w5.cell? ⟨C, k, none⟩ = some (.int .u32 0) := by rw [Blk.cell hC5, ← hfc]; exact fillB_cell (by omega)
        have fC := Blk.frozen hC5 k
        have hset := Blk.set hC5 k (.int .u32 ((takeS rk1 nk).1 : Int))
        rw [← hfc, fillB_set (by omega), hfc] at hset
        have HSET : Hid (Blk (w5.setCell ⟨C, k, none⟩ (.int .u32 ((takeS rk1 nk).1 : Int))) C 31 (fillB (flatG cells32 (acc ++ [(takeS rk1 nk).1])) many (.int .u32 0))) := hide (by rw [flat32_snoc]; exact hset)
        have HD6 := hide (Blk.but h5 (But.set C w5 k (.int .u32 ((takeS rk1 nk).1 : Int))) (by omega))
        have HR6 := hide ((unhide HR5).but (But.set C w5 k (.int .u32 ((takeS rk1 nk).1 : Int))) (by omega))
        have HB6 := hide ((unhide HB5).far (But.set C w5 k (.int .u32 ((takeS rk1 nk).1 : Int))) (by rw [← unhide HDW]; omega))
        clear h5 b5 HTk hC5 hfc hset HR4 HC4 HB4 HR5 HB5
        generalize ((takeS rk1 nk).1 : Int) = tv at *
        go_wp2
        exact ⟨⟨k + 1, by go_num, by omega, hide (by rw [unhide HNX]; exact unhide HD6), HR6, hide (by rw [unhide HNX]; exact unhide HSET), HB6⟩, by simp [intOf]; omega⟩
      · have hkm' : ¬ (k : Int) < (many : Int) := by omega
        have hke : k = many := by omega
        subst hke
        have hlen := restF_len T1.data.toList k ⟨0, r1.least, r1.er⟩
        have hreq := restS_eq (many := k) (unhide HDEF).1 (unhide HDEF).2
        rw [← unhide HTX] at hreq
        generalize hst : restF T1.data.toList k ⟨0, r1.least, r1.er⟩ = st at HDk HCk hink hlen hreq
        obtain ⟨acc, i0r⟩ := st
        simp only at HDk HCk hink hlen hreq
        have hpi := hink.pos
        have hli := hink.least
        rw [sizeL] at hpi
        rw [unhide HWH] at hreq
        have HREQ := hide hreq
        have HOWN := hide hlen
        clear hst hink hreq hlen
        have k3 : wr.cell? ⟨D, 3, none⟩ = some (.int .i64 (i0r.er : Int)) := (Blk.cell (unhide HDk) 3).trans rfl
        have k1 : wr.cell? ⟨D, 1, none⟩ = some (.int .i64 (i0r.pos : Int)) := (Blk.cell (unhide HDk) 1).trans rfl
        have j3 := Blk.frozen (unhide HDk) 3
        by_cases h5 : i0r.er = 5
        · have e5 : ((i0r.er : Int) == 5) = true := by rw [h5]; rfl
          have HE : Hid (endS false n i0r = if i0r.pos = n then i0r else failS i0r 7) := hide (endS_else (by simp))
          go_upto_region 14 with (fail)
          clear k3 k1 j3 e5 h5
          have z1 : wr.cell? ⟨D, 1, none⟩ = some (.int .i64 (i0r.pos : Int)) := (Blk.cell (unhide HDk) 1).trans rfl
          by_cases hps : i0r.pos = n
          · have ep : ((i0r.pos : Int) != (n : Int)) = false := by rw [hps]; simp
            obtain ⟨i, hiE⟩ : ∃ i, i = i0r := ⟨_, rfl⟩
            have HEND : Hid (endS false n i0r = i) := hide (by rw [hiE]; rw [unhide HE, if_pos hps])
            have hipos : i.pos ≤ T.size := by rw [hiE]; show i0r.pos ≤ _; omega
            rw [← hiE] at HDk
            clear hiE hps
            have y3 : wr.cell? ⟨D, 3, none⟩ = some (.int .i64 (i.er : Int)) := (Blk.cell (unhide HDk) 3).trans rfl
            have HFB := hide (rfail_any B T r1 i.er wr (unhide HRk))
            go_wp2_with fail
            refine (unhide HFB).mono ?_
            rintro v w8 ⟨rfl, h8, b8⟩
            have hD8 := (unhide HDk).but b8 (by omega)
            have HC8 := hide ((unhide HCk).but b8 (by omega))
            have HB8 := hide ((unhide HBk).trans b8)
            have q1 : w8.cell? ⟨B, 1, none⟩ = some (.int .i64 ((failS r1 i.er).pos : Int)) := (Blk.cell h8 1).trans rfl
            rw [(failS_pos r1 i.er).1] at q1
            have f1 := Blk.frozen h8 1
            have f2 := Blk.frozen h8 2
            have q2 : w8.cell? ⟨B, 2, none⟩ = some (.int .u64 ((failS r1 i.er).least : Int)) := (Blk.cell h8 2).trans rfl
            have p1 : w8.cell? ⟨D, 1, none⟩ = some (.int .i64 (i.pos : Int)) := (Blk.cell hD8 1).trans rfl
            have p2 : w8.cell? ⟨D, 2, none⟩ = some (.int .u64 (i.least : Int)) := (Blk.cell hD8 2).trans rfl
            have HR8 := hide h8
            have hDB : D ≠ B := by omega
            have hsumi : (r1.pos : Int) + (i.pos : Int) ≤ 9223372036854775807 := by omega
            obtain ⟨PB, hPB⟩ : ∃ PB : Nat, r1.pos = PB := ⟨_, rfl⟩
            rw [hPB] at q1 hsumi
            have HPB := hide hPB
            generalize ((failS r1 i.er).least : Int) = lz at q2
            clear HFB hD8 h8 b8 HDk HRk HCk HBk hPB y3
            go_wp2
            have q1' : w8.drew.cell? ⟨B, 1, none⟩ = some (.int .i64 (PB : Int)) := q1
            have f1' : w8.drew.frozen? ⟨B, 1, none⟩ = false := f1
            have p1' : w8.drew.cell? ⟨D, 1, none⟩ = some (.int .i64 (i.pos : Int)) := p1
            go_region_with (fail)
            all_goals
              clear q1' f1' p1'
              (try go_simp)
              go_wp2
              go_ret
              rw [show (PB : Int) + (i.pos : Int) = ((r1.pos + i.pos : Nat) : Int) by have := unhide HPB; omega]
              have hR9 := Rdr.setLeast (Rdr.setPos (unhide HR8) (r1.pos + i.pos)) i.least
              have hC9 := Blk.but (Blk.but (unhide HC8) (But.set B w8 1 (.int .i64 ((r1.pos + i.pos : Nat) : Int))) (by omega)) (But.set B _ 2 (.int .u64 (i.least : Int))) (by omega)
              have hB9 := (unhide HB1).trans ((unhide HB8).trans ((But.set B w8 1 (.int .i64 ((r1.pos + i.pos : Nat) : Int))).trans (But.set B _ 2 (.int .u64 (i.least : Int)))))
              have hCw : w.heap.size ≤ C := by have := (unhide HB1).size; have := unhide HDW; omega
              refine ⟨⟨_, rfl, ?_⟩, ?_, ?_⟩
              · rw [unhide HREQ]; exact own_full hC9 (unhide HOWN) hCw (by omega)
              · rw [unhide HREQ, unhide HEND]; exact hR9
              · exact ⟨hB9.os, hB9.tape, hB9.output, hB9.size, hB9.block⟩
          · have ep : ((i0r.pos : Int) != (n : Int)) = true := by rw [bne_iff_ne]; omega
            have HFD := hide (rfail_any D T1 i0r 7 wr (unhide HDk))
            obtain ⟨i, hiE⟩ : ∃ i, i = failS i0r 7 := ⟨_, rfl⟩
            have HEND : Hid (endS false n i0r = i) := hide (by rw [hiE]; rw [unhide HE, if_neg hps])
            have hipos : i.pos ≤ T.size := by rw [hiE, (failS_pos _ 7).1]; show i0r.pos ≤ _; omega
            rw [← hiE] at HFD
            clear hiE hps
            go_wp2_with fail
            refine (unhide HFD).mono ?_
            rintro v w7 ⟨rfl, h7, b7⟩
            have HD7 := hide h7
            have HR7 := hide ((unhide HRk).but b7 (by omega))
            have HC7 := hide ((unhide HCk).but b7 (by omega))
            have HB7 := hide ((unhide HBk).far b7 (by rw [← unhide HDW]; omega))
            clear h7 b7 HFD HDk HRk HCk HBk
            have y3 : w7.cell? ⟨D, 3, none⟩ = some (.int .i64 (i.er : Int)) := (Blk.cell (unhide HD7) 3).trans rfl
            have HFB := hide (rfail_any B T r1 i.er w7 (unhide HR7))
            go_wp2_with fail
            refine (unhide HFB).mono ?_
            rintro v w8 ⟨rfl, h8, b8⟩
            have hD8 := (unhide HD7).but b8 (by omega)
            have HC8 := hide ((unhide HC7).but b8 (by omega))
            have HB8 := hide ((unhide HB7).trans b8)
            have q1 : w8.cell? ⟨B, 1, none⟩ = some (.int .i64 ((failS r1 i.er).pos : Int)) := (Blk.cell h8 1).trans rfl
            rw [(failS_pos r1 i.er).1] at q1
            have f1 := Blk.frozen h8 1
            have f2 := Blk.frozen h8 2
            have q2 : w8.cell? ⟨B, 2, none⟩ = some (.int .u64 ((failS r1 i.er).least : Int)) := (Blk.cell h8 2).trans rfl
            have p1 : w8.cell? ⟨D, 1, none⟩ = some (.int .i64 (i.pos : Int)) := (Blk.cell hD8 1).trans rfl
            have p2 : w8.cell? ⟨D, 2, none⟩ = some (.int .u64 (i.least : Int)) := (Blk.cell hD8 2).trans rfl
            have HR8 := hide h8
            have hDB : D ≠ B := by omega
            have hsumi : (r1.pos : Int) + (i.pos : Int) ≤ 9223372036854775807 := by omega
            obtain ⟨PB, hPB⟩ : ∃ PB : Nat, r1.pos = PB := ⟨_, rfl⟩
            rw [hPB] at q1 hsumi
            have HPB := hide hPB
            generalize ((failS r1 i.er).least : Int) = lz at q2
            clear HFB hD8 h8 b8 HD7 HR7 HC7 HB7 hPB y3
            go_wp2
            have q1' : w8.drew.cell? ⟨B, 1, none⟩ = some (.int .i64 (PB : Int)) := q1
            have f1' : w8.drew.frozen? ⟨B, 1, none⟩ = false := f1
            have p1' : w8.drew.cell? ⟨D, 1, none⟩ = some (.int .i64 (i.pos : Int)) := p1
            go_region_with (fail)
            all_goals
              clear q1' f1' p1'
              (try go_simp)
              go_wp2
              go_ret
              rw [show (PB : Int) + (i.pos : Int) = ((r1.pos + i.pos : Nat) : Int) by have := unhide HPB; omega]
              have hR9 := Rdr.setLeast (Rdr.setPos (unhide HR8) (r1.pos + i.pos)) i.least
              have hC9 := Blk.but (Blk.but (unhide HC8) (But.set B w8 1 (.int .i64 ((r1.pos + i.pos : Nat) : Int))) (by omega)) (But.set B _ 2 (.int .u64 (i.least : Int))) (by omega)
              have hB9 := (unhide HB1).trans ((unhide HB8).trans ((But.set B w8 1 (.int .i64 ((r1.pos + i.pos : Nat) : Int))).trans (But.set B _ 2 (.int .u64 (i.least : Int)))))
              have hCw : w.heap.size ≤ C := by have := (unhide HB1).size; have := unhide HDW; omega
              refine ⟨⟨_, rfl, ?_⟩, ?_, ?_⟩
              · rw [unhide HREQ]; exact own_full hC9 (unhide HOWN) hCw (by omega)
              · rw [unhide HREQ, unhide HEND]; exact hR9
              · exact ⟨hB9.os, hB9.tape, hB9.output, hB9.size, hB9.block⟩
        · have e5 : ((i0r.er : Int) == 5) = false := by rw [beq_eq_false_iff_ne]; omega
          have HE : Hid (endS false n i0r = if i0r.pos = n then i0r else failS i0r 7) := hide (endS_else (by simp))
          go_upto_region 14 with (fail)
          clear k3 k1 j3 e5 h5
          have z1 : wr.cell? ⟨D, 1, none⟩ = some (.int .i64 (i0r.pos : Int)) := (Blk.cell (unhide HDk) 1).trans rfl
          by_cases hps : i0r.pos = n
          · have ep : ((i0r.pos : Int) != (n : Int)) = false := by rw [hps]; simp
            obtain ⟨i, hiE⟩ : ∃ i, i = i0r := ⟨_, rfl⟩
            have HEND : Hid (endS false n i0r = i) := hide (by rw [hiE]; rw [unhide HE, if_pos hps])
            have hipos : i.pos ≤ T.size := by rw [hiE]; show i0r.pos ≤ _; omega
            rw [← hiE] at HDk
            clear hiE hps
            have y3 : wr.cell? ⟨D, 3, none⟩ = some (.int .i64 (i.er : Int)) := (Blk.cell (unhide HDk) 3).trans rfl
            have HFB := hide (rfail_any B T r1 i.er wr (unhide HRk))
            go_wp2_with fail
            refine (unhide HFB).mono ?_
            rintro v w8 ⟨rfl, h8, b8⟩
            have hD8 := (unhide HDk).but b8 (by omega)
            have HC8 := hide ((unhide HCk).but b8 (by omega))
            have HB8 := hide ((unhide HBk).trans b8)
            have q1 : w8.cell? ⟨B, 1, none⟩ = some (.int .i64 ((failS r1 i.er).pos : Int)) := (Blk.cell h8 1).trans rfl
            rw [(failS_pos r1 i.er).1] at q1
            have f1 := Blk.frozen h8 1
            have f2 := Blk.frozen h8 2
            have q2 : w8.cell? ⟨B, 2, none⟩ = some (.int .u64 ((failS r1 i.er).least : Int)) := (Blk.cell h8 2).trans rfl
            have p1 : w8.cell? ⟨D, 1, none⟩ = some (.int .i64 (i.pos : Int)) := (Blk.cell hD8 1).trans rfl
            have p2 : w8.cell? ⟨D, 2, none⟩ = some (.int .u64 (i.least : Int)) := (Blk.cell hD8 2).trans rfl
            have HR8 := hide h8
            have hDB : D ≠ B := by omega
            have hsumi : (r1.pos : Int) + (i.pos : Int) ≤ 9223372036854775807 := by omega
            obtain ⟨PB, hPB⟩ : ∃ PB : Nat, r1.pos = PB := ⟨_, rfl⟩
            rw [hPB] at q1 hsumi
            have HPB := hide hPB
            generalize ((failS r1 i.er).least : Int) = lz at q2
            clear HFB hD8 h8 b8 HDk HRk HCk HBk hPB y3
            go_wp2
            have q1' : w8.drew.cell? ⟨B, 1, none⟩ = some (.int .i64 (PB : Int)) := q1
            have f1' : w8.drew.frozen? ⟨B, 1, none⟩ = false := f1
            have p1' : w8.drew.cell? ⟨D, 1, none⟩ = some (.int .i64 (i.pos : Int)) := p1
            go_region_with (fail)
            all_goals
              clear q1' f1' p1'
              (try go_simp)
              go_wp2
              go_ret
              rw [show (PB : Int) + (i.pos : Int) = ((r1.pos + i.pos : Nat) : Int) by have := unhide HPB; omega]
              have hR9 := Rdr.setLeast (Rdr.setPos (unhide HR8) (r1.pos + i.pos)) i.least
              have hC9 := Blk.but (Blk.but (unhide HC8) (But.set B w8 1 (.int .i64 ((r1.pos + i.pos : Nat) : Int))) (by omega)) (But.set B _ 2 (.int .u64 (i.least : Int))) (by omega)
              have hB9 := (unhide HB1).trans ((unhide HB8).trans ((But.set B w8 1 (.int .i64 ((r1.pos + i.pos : Nat) : Int))).trans (But.set B _ 2 (.int .u64 (i.least : Int)))))
              have hCw : w.heap.size ≤ C := by have := (unhide HB1).size; have := unhide HDW; omega
              refine ⟨⟨_, rfl, ?_⟩, ?_, ?_⟩
              · rw [unhide HREQ]; exact own_full hC9 (unhide HOWN) hCw (by omega)
              · rw [unhide HREQ, unhide HEND]; exact hR9
              · exact ⟨hB9.os, hB9.tape, hB9.output, hB9.size, hB9.block⟩
          · have ep : ((i0r.pos : Int) != (n : Int)) = true := by rw [bne_iff_ne]; omega
            have HFD := hide (rfail_any D T1 i0r 7 wr (unhide HDk))
            obtain ⟨i, hiE⟩ : ∃ i, i = failS i0r 7 := ⟨_, rfl⟩
            have HEND : Hid (endS false n i0r = i) := hide (by rw [hiE]; rw [unhide HE, if_neg hps])
            have hipos : i.pos ≤ T.size := by rw [hiE, (failS_pos _ 7).1]; show i0r.pos ≤ _; omega
            rw [← hiE] at HFD
            clear hiE hps
            go_wp2_with fail
            refine (unhide HFD).mono ?_
            rintro v w7 ⟨rfl, h7, b7⟩
            have HD7 := hide h7
            have HR7 := hide ((unhide HRk).but b7 (by omega))
            have HC7 := hide ((unhide HCk).but b7 (by omega))
            have HB7 := hide ((unhide HBk).far b7 (by rw [← unhide HDW]; omega))
            clear h7 b7 HFD HDk HRk HCk HBk
            have y3 : w7.cell? ⟨D, 3, none⟩ = some (.int .i64 (i.er : Int)) := (Blk.cell (unhide HD7) 3).trans rfl
            have HFB := hide (rfail_any B T r1 i.er w7 (unhide HR7))
            go_wp2_with fail
            refine (unhide HFB).mono ?_
            rintro v w8 ⟨rfl, h8, b8⟩
            have hD8 := (unhide HD7).but b8 (by omega)
            have HC8 := hide ((unhide HC7).but b8 (by omega))
            have HB8 := hide ((unhide HB7).trans b8)
            have q1 : w8.cell? ⟨B, 1, none⟩ = some (.int .i64 ((failS r1 i.er).pos : Int)) := (Blk.cell h8 1).trans rfl
            rw [(failS_pos r1 i.er).1] at q1
            have f1 := Blk.frozen h8 1
            have f2 := Blk.frozen h8 2
            have q2 : w8.cell? ⟨B, 2, none⟩ = some (.int .u64 ((failS r1 i.er).least : Int)) := (Blk.cell h8 2).trans rfl
            have p1 : w8.cell? ⟨D, 1, none⟩ = some (.int .i64 (i.pos : Int)) := (Blk.cell hD8 1).trans rfl
            have p2 : w8.cell? ⟨D, 2, none⟩ = some (.int .u64 (i.least : Int)) := (Blk.cell hD8 2).trans rfl
            have HR8 := hide h8
            have hDB : D ≠ B := by omega
            have hsumi : (r1.pos : Int) + (i.pos : Int) ≤ 9223372036854775807 := by omega
            obtain ⟨PB, hPB⟩ : ∃ PB : Nat, r1.pos = PB := ⟨_, rfl⟩
            rw [hPB] at q1 hsumi
            have HPB := hide hPB
            generalize ((failS r1 i.er).least : Int) = lz at q2
            clear HFB hD8 h8 b8 HD7 HR7 HC7 HB7 hPB y3
            go_wp2
            have q1' : w8.drew.cell? ⟨B, 1, none⟩ = some (.int .i64 (PB : Int)) := q1
            have f1' : w8.drew.frozen? ⟨B, 1, none⟩ = false := f1
            have p1' : w8.drew.cell? ⟨D, 1, none⟩ = some (.int .i64 (i.pos : Int)) := p1
            go_region_with (fail)
            all_goals
              clear q1' f1' p1'
              (try go_simp)
              go_wp2
              go_ret
              rw [show (PB : Int) + (i.pos : Int) = ((r1.pos + i.pos : Nat) : Int) by have := unhide HPB; omega]
              have hR9 := Rdr.setLeast (Rdr.setPos (unhide HR8) (r1.pos + i.pos)) i.least
              have hC9 := Blk.but (Blk.but (unhide HC8) (But.set B w8 1 (.int .i64 ((r1.pos + i.pos : Nat) : Int))) (by omega)) (But.set B _ 2 (.int .u64 (i.least : Int))) (by omega)
              have hB9 := (unhide HB1).trans ((unhide HB8).trans ((But.set B w8 1 (.int .i64 ((r1.pos + i.pos : Nat) : Int))).trans (But.set B _ 2 (.int .u64 (i.least : Int)))))
              have hCw : w.heap.size ≤ C := by have := (unhide HB1).size; have := unhide HDW; omega
              refine ⟨⟨_, rfl, ?_⟩, ?_, ?_⟩
              · rw [unhide HREQ]; exact own_full hC9 (unhide HOWN) hCw (by omega)
              · rw [unhide HREQ, unhide HEND]; exact hR9
              · exact ⟨hB9.os, hB9.tape, hB9.output, hB9.size, hB9.block⟩
end Go.Proofs.Ytfjjigcghhohkaa
