/-
  What dict.readEntries does, over this seat's program.
-/
import Derived.Test.YtfjjigcghhohkaaDea
set_option linter.unusedVariables false
namespace Go.Proofs.Ytfjjigcghhohkaa
open Go.RowKit Go.Proofs.Num Go.Proofs.Dct

/-- An entry whose data are not there yet. -/
def ent0 (h : Nat × Nat) : Ent3 := (h.1, ByteArray.empty, h.2)
theorem map_len0 (hs : List (Nat × Nat)) : (hs.map ent0).length = hs.length := by simp
def RdE (s : ByteArray) (B : Nat) (w' : World) (v : Value) (p c : Nat) : Prop :=
  match readE s.data.toList with
  | .error e => v = .slice none 0 0 ∧ p = 0 ∧ c = e
  | .ok (hs, q) => w'.ownsRow B 82 3 v (hs.map ent0).length (flatG cells3 (hs.map ent0)) ∧ p = q ∧ c = 0
theorem rdE_err {s : ByteArray} {e : Nat} (h : readE s.data.toList = .error e) (B : Nat) (w' : World) : RdE s B w' (.slice none 0 0) 0 e := by
  unfold RdE; rw [h]; exact ⟨rfl, rfl, rfl⟩
theorem rdE_ok {s : ByteArray} {hs : List (Nat × Nat)} {q : Nat} (h : readE s.data.toList = .ok (hs, q)) {B : Nat} {w' : World} {v : Value} (ho : w'.ownsRow B 82 3 v (hs.map ent0).length (flatG cells3 (hs.map ent0))) : RdE s B w' v q 0 := by
  unfold RdE; rw [h]; exact ⟨ho, rfl, rfl⟩

/-- What readEntry tells behind some entries: an error, or the next one. -/
theorem rde_way (s : ByteArray) (c i p B cap : Nat) (ad : Option Addr) (acc : List (Nat × Nat)) (hs : s.size ≤ 140737488355328) (hp : p ≤ s.size) (hlen : acc.length ≤ 65536) (hlk : leastK (acc.map ent0) ≤ 18446744073709551616) (hA : readHF s.data.toList (c + 1) acc (leastK (acc.map ent0)) p = readE s.data.toList) :
    (∃ e : Nat, e ≠ 0 ∧ readE s.data.toList = .error e ∧ ∀ W : World, W.ownsRow B 82 3 (.slice ad (acc.map ent0).length cap) (acc.map ent0).length (flatG cells3 (acc.map ent0)) → Calls Try.prog 53 #[.string s, .int .i64 p, .slice ad (acc.map ent0).length cap] W fun e' w' => e' = .returned (.tuple #[.agg #[.int .u64 0, .string ByteArray.empty, .int .u64 0], .int .i64 0, .int .i64 (e : Int)]) ∧ Below W.heap.size W w')
    ∨ (∃ ky n q : Nat, ky ≤ 18446744073709551615 ∧ q ≤ s.size ∧ readHF s.data.toList c (acc ++ [(ky, n)]) (ky + 1) q = readE s.data.toList ∧ ∀ W : World, W.ownsRow B 82 3 (.slice ad (acc.map ent0).length cap) (acc.map ent0).length (flatG cells3 (acc.map ent0)) → Calls Try.prog 53 #[.string s, .int .i64 p, .slice ad (acc.map ent0).length cap] W fun e' w' => e' = .returned (.tuple #[.agg #[.int .u64 (ky : Int), .string ByteArray.empty, .int .u64 (n : Int)], .int .i64 (q : Int), .int .i64 0]) ∧ Below W.heap.size W w') := by
  have hml := map_len0 acc
  obtain ⟨m, z, e, h1⟩ : ∃ m z e, scanL (s.data.toList.drop p) = (m, z, e) := ⟨_, _, _, rfl⟩
  by_cases he0 : e = 0
  · subst he0
    have hd1 := drop_scan h1
    rw [sizeL] at hd1
    by_cases hbig : 18446744073709551615 < leastK (acc.map ent0) + m
    · left
      refine ⟨7, by omega, by rw [← hA]; exact readHF_code h1 hbig, fun W hW => ?_⟩
      exact rde_code s p m z 0 0 0 _ _ _ W hs hp hW (by rw [hml]; omega) hlk h1 hbig
    · obtain ⟨n, z2, e2, h2⟩ : ∃ n z2 e2, scanL (s.data.toList.drop (p + z)) = (n, z2, e2) := ⟨_, _, _, rfl⟩
      by_cases he2 : e2 = 0
      · subst he2
        right
        have hd2 := drop_scan h2
        rw [sizeL] at hd2
        refine ⟨leastK (acc.map ent0) + m, n, p + z + z2, by omega, hd2.2.2.1, by rw [← hA]; exact (readHF_step h1 hbig h2).symm, fun W hW => ?_⟩
        exact rde_ok s p m z n z2 0 _ _ _ W hs hp hW (by rw [hml]; omega) hlk h1 hbig h2
      · left
        have hno2 := scanL_no (s.data.toList.drop (p + z))
        rw [h2] at hno2
        have hz0 : (n, z2, e2) = (0, 0, e2) := by
          rcases hno2 with h | h | h
          · exact absurd h he2
          · simp only [Prod.mk.injEq] at h ⊢; exact ⟨h.1, h.2.1, trivial⟩
          · simp only [Prod.mk.injEq] at h ⊢; exact ⟨h.1, h.2.1, trivial⟩
        refine ⟨e2, he2, by rw [← hA]; exact readHF_err2 h1 hbig h2 he2, fun W hW => ?_⟩
        exact rde_err2 s p m z 0 0 e2 _ _ _ W hs hp hW (by rw [hml]; omega) hlk h1 hbig (by rw [h2, hz0]) he2
  · left
    have hno1 := scanL_no (s.data.toList.drop p)
    rw [h1] at hno1
    have hz0 : (m, z, e) = (0, 0, e) := by
      rcases hno1 with h | h | h
      · exact absurd h he0
      · simp only [Prod.mk.injEq] at h ⊢; exact ⟨h.1, h.2.1, trivial⟩
      · simp only [Prod.mk.injEq] at h ⊢; exact ⟨h.1, h.2.1, trivial⟩
    refine ⟨e, he0, by rw [← hA]; exact readHF_err1 h1 he0, fun W hW => ?_⟩
    exact rde_err1 s p 0 0 0 0 e _ _ _ W hs hp hW (by rw [hml]; omega) hlk (by rw [h1, hz0]) he0

set_option maxHeartbeats 2000000 in
set_option maxRecDepth 100000 in
theorem rds_any (s : ByteArray) (w : World) (hs : s.size ≤ 140737488355328) :
    Calls Try.prog 44 #[.string s] w fun e w' => ∃ v, ∃ p c : Nat, e = .returned (.tuple #[v, .int .i64 p, .int .i64 c]) ∧ RdE s w.heap.size w' v p c ∧ Below w.heap.size w w' := by
  have hsl := sizeL s
  obtain ⟨c0, k0, e0, hsc⟩ : ∃ m k e, scanL s.data.toList = (m, k, e) := ⟨_, _, _, rfl⟩
  have hsc0 : scanL (s.data.toList.drop 0) = (c0, k0, e0) := by simpa using hsc
  have hR : readE s.data.toList = if e0 ≠ 0 then .error e0 else if 65536 < c0 then .error 15 else readHF s.data.toList c0 [] 0 k0 := by unfold readE; rw [hsc]
  have hno := scanL_no s.data.toList
  rw [hsc] at hno
  by_cases he : e0 = 0
  · subst he
    rw [if_neg (by simp)] at hR
    have HR0 := hide (fun W => rdn_ok s 0 c0 k0 W hs (Nat.zero_le _) hsc0)
    have hd := drop_scan hsc0
    rw [sizeL] at hd
    simp only [Nat.zero_add] at hd HR0
    by_cases h6 : 65536 < c0
    · rw [if_pos h6] at hR
      have HR := hide hR
      have h6i : (65536 : Int) < (c0 : Int) := by omega
      clear hR hsc hsc0 hno hd
      go_enter Try.func44, Try.ntmps44
      go_wp2_with fail
      refine (unhide HR0 _).mono ?_
      rintro e w1 ⟨rfl, hb1⟩
      go_wp2
      go_ret3
      exact ⟨_, 0, 15, rfl, rdE_err (unhide HR) _ _, hb1⟩
    · rw [if_neg h6] at hR
      have HR := hide hR
      have h6i : (c0 : Int) ≤ 65536 := by omega
      obtain ⟨i0, hi, hz0, hz1, hz2⟩ := info_parts ent3Info
      have hk0 : k0 ≤ s.size := hd.2.2.1
      clear hR hsc hsc0 hno hd
      have hmk := fun (W : World) (hW : w.heap.size ≤ W.heap.size) => run_make_own (P := Try.prog) W w.heap.size 78 82 i0 (.agg #[.int .u64 0, .string ByteArray.empty, .int .u64 0]) 3 Try.underlying78 hi hz0 hz1 .i64 .i64 (min c0 (s.size / 2)) (by rw [hz2]; omega) (by unfold maxLen; omega) hW
      have hmin : ((min c0 (s.size / 2) : Nat) : Int) = min (c0 : Int) ((s.size : Int) / 2) := by omega
      go_enter Try.func44, Try.ntmps44
      go_wp2_with fail
      refine (unhide HR0 _).mono ?_
      rintro e w1 ⟨rfl, hb1⟩
      obtain ⟨w2, hrun, hown, hgr⟩ := hmk w1 hb1.size
      rw [hmin] at hrun
      have hb2 : Below w.heap.size w w2 := hb1.grown hgr hb1.size (fun k hk => by cases hk)
      clear hmk hb1 hgr
      go_wp2
      clear hrun hmin
      go_loopw [6, 7, 8, 29] (fun xa xe xl xi wr => ∃ (i p : Nat) (acc : List (Nat × Nat)), xi = .int .u64 i ∧ xa = .int .i64 p ∧ xe = .int .i64 0 ∧ i ≤ c0 ∧ p ≤ s.size ∧ Hid (acc.length = i ∧ leastK (acc.map ent0) ≤ 18446744073709551616) ∧ Hid (wr.ownsRow w.heap.size 82 3 xl (acc.map ent0).length (flatG cells3 (acc.map ent0))) ∧ Hid (readHF s.data.toList (c0 - i) acc (leastK (acc.map ent0)) p = readE s.data.toList) ∧ Hid (Below w.heap.size w wr)) (fun _ _ _ xi _ => c0 - (intOf xi).toNat)
      case atStart => exact ⟨0, k0, [], rfl, rfl, rfl, Nat.zero_le _, hk0, hide ⟨rfl, by rw [List.map_nil, leastK_nil]; omega⟩, hide (by simpa [flatG] using hown), hide (by rw [unhide HR]; rfl), hide hb2⟩
      case round =>
        obtain ⟨i, p, acc, rfl, rfl, rfl, hic, hp, HL, HO, HA, HB⟩ := hrel
        obtain ⟨ad, cap, hu8, hcap⟩ := own_sliceG (unhide HO)
        subst hu8
        by_cases hlt : i < c0
        · have hlt1 : (i : Int) < (c0 : Int) := by omega
          have hq : c0 - i = (c0 - (i + 1)) + 1 := by omega
          have hbA : Below wr.heap.size wr (wr.alloc (.cells #[.int .u64 0, .string ByteArray.empty, .int .u64 0] 82)) := (Below.refl _ _).alloc (Nat.le_refl _) _
          have HOA := hide (own_below (unhide HO) hbA)
          have HK := hide (Blk.new wr 82 #[.int .u64 0, .string ByteArray.empty, .int .u64 0])
          have hzr := (unhide HB).size
          have hway := rde_way s (c0 - (i + 1)) i p w.heap.size cap ad acc hs hp (by have := (unhide HL).1; omega) (unhide HL).2 (by rw [← hq]; exact unhide HA)
          rcases hway with ⟨c, hc, hfin, hcall⟩ | ⟨ky, n, q, hky, hq2, hfin, hcall⟩
          · have HF := hide hfin
            have HCL := hide (hcall _ (unhide HOA))
            have hne : ((c : Int) == 0) = false := by simp; omega
            clear hcall hfin hc HA HL hq HO HOA
            generalize (acc.map ent0).length = M at HCL hcap ⊢
            go_wp2_with fail
            refine (unhide HCL).mono ?_
            rintro e w3 ⟨rfl, hb3⟩
            have HK3 := hide ((unhide HK).below hb3)
            have HB3 := hide ((unhide HB).trans ((belows' hbA hb3).mono hzr))
            have f0 : w3.frozen? ⟨wr.heap.size, 0, none⟩ = false := Blk.frozen (unhide HK3) 0
            have f1 : w3.frozen? ⟨wr.heap.size, 1, none⟩ = false := Blk.frozen (unhide HK3) 1
            have f2 : w3.frozen? ⟨wr.heap.size, 2, none⟩ = false := Blk.frozen (unhide HK3) 2
            have q0 : w3.cell? ⟨wr.heap.size, 0, none⟩ = some (.int .u64 0) := Blk.cell (unhide HK3) 0
            have q1 : w3.cell? ⟨wr.heap.size, 1, none⟩ = some (.string ByteArray.empty) := Blk.cell (unhide HK3) 1
            have q2 : w3.cell? ⟨wr.heap.size, 2, none⟩ = some (.int .u64 0) := Blk.cell (unhide HK3) 2
            clear hb3 hbA HK HB
            go_wp2
            go_ret3
            exact ⟨_, 0, c, rfl, rdE_err (unhide HF) _ _, (((unhide HB3).setCell (p := ⟨wr.heap.size, 0, none⟩) hzr _).setCell (p := ⟨wr.heap.size, 1, none⟩) hzr _).setCell (p := ⟨wr.heap.size, 2, none⟩) hzr _⟩
          · have HF := hide hfin
            have HCL := hide (hcall _ (unhide HOA))
            have hkyi : (ky : Int) ≤ 18446744073709551615 := by omega
            clear hcall hfin HA hq HOA
            obtain ⟨M, hM⟩ : ∃ M, M = (acc.map ent0).length := ⟨_, rfl⟩
            rw [← hM] at HCL hcap HO ⊢
            have HM := hide hM
            have hMi : M ≤ 65536 := by have := (unhide HL).1; rw [map_len0] at hM; omega
            clear hM
            go_wp2_with fail
            refine (unhide HCL).mono ?_
            rintro e w3 ⟨rfl, hb3⟩
            have HK3 := hide ((unhide HK).below hb3)
            have HB3 := hide ((((belows' hbA hb3).setCell (p := ⟨wr.heap.size, 0, none⟩) (Nat.le_refl _) (.int .u64 (ky : Int))).setCell (p := ⟨wr.heap.size, 1, none⟩) (Nat.le_refl _) (.string ByteArray.empty)).setCell (p := ⟨wr.heap.size, 2, none⟩) (Nat.le_refl _) (.int .u64 (n : Int)))
            have f0 : w3.frozen? ⟨wr.heap.size, 0, none⟩ = false := Blk.frozen (unhide HK3) 0
            have f1 : w3.frozen? ⟨wr.heap.size, 1, none⟩ = false := Blk.frozen (unhide HK3) 1
            have f2 : w3.frozen? ⟨wr.heap.size, 2, none⟩ = false := Blk.frozen (unhide HK3) 2
            have q0 : w3.cell? ⟨wr.heap.size, 0, none⟩ = some (.int .u64 0) := Blk.cell (unhide HK3) 0
            have q1 : w3.cell? ⟨wr.heap.size, 1, none⟩ = some (.string ByteArray.empty) := Blk.cell (unhide HK3) 1
            have q2 : w3.cell? ⟨wr.heap.size, 2, none⟩ = some (.int .u64 0) := Blk.cell (unhide HK3) 2
            have hz3 := hb3.size
            have hzz : wr.heap.size ≤ w3.heap.size := by simp at hz3; omega
            have HOW := hide (own_below (unhide HO) ((unhide HB3).alloc (by simp; omega) (.cells #[.int .u64 (ky : Int), .string ByteArray.empty, .int .u64 (n : Int)] 82)))
            clear hb3 hbA HK hz3
            go_wp2_with (at_builtin; refine wpList_append_own _ rfl _ _ 78 rfl w.heap.size 82 i0 (.agg #[.int .u64 0, .string ByteArray.empty, .int .u64 0]) 3 32 Try.underlying78 hi hz0 hz1 hz2 rfl (by decide) _ _ _ rfl (unhide HOW) ⟨w3.heap.size, 0, none⟩ 1 1 [.int .u64 (ky : Int), .string ByteArray.empty, .int .u64 (n : Int)] rfl rfl ?c1 ?c2 ?c3 ?c4 ?c5 ?_)
            case c1 =>
              intro j u hj
              exact new_cells _ _ _ _ (by simp) j u hj
            case c2 => intro u hu; simp at hu; rcases hu with rfl | rfl | rfl <;> rfl
            case c3 => unfold maxLen; omega
            case c4 => omega
            case c5 => simp; omega
            intro v' w4 hown' hgrow _
            have HB4 := hide (below_own ((unhide HB).trans (((unhide HB3).alloc (by simp; omega) (.cells #[.int .u64 (ky : Int), .string ByteArray.empty, .int .u64 (n : Int)] 82)).mono hzr)) (unhide HOW) hgrow (by simp; omega))
            have hln : (acc ++ [(ky, n)]).length = i + 1 ∧ leastK ((acc ++ [(ky, n)]).map ent0) = ky + 1 := by
              refine ⟨by rw [List.length_append, (unhide HL).1]; rfl, ?_⟩
              rw [List.map_append, List.map_cons, List.map_nil, leastK_snoc]
              rfl
            have hml : ((acc ++ [(ky, n)]).map ent0).length = M + 1 := by rw [List.map_append, List.length_append, ← unhide HM]; rfl
            have HO4 : Hid (w4.ownsRow w.heap.size 82 3 v' ((acc ++ [(ky, n)]).map ent0).length (flatG cells3 ((acc ++ [(ky, n)]).map ent0))) := hide (by
              rw [hml, List.map_append, flatG_append]
              exact hown')
            have HL4 := hide hln
            clear hown' hgrow hln hml HOW HO HL HM HB HB3 f0 f1 f2 q0 q1 q2
            go_wp2
            exact ⟨⟨i + 1, q, acc ++ [(ky, n)], by go_num, rfl, rfl, by omega, hq2, hide ⟨(unhide HL4).1, by rw [(unhide HL4).2]; omega⟩, HO4, hide (by rw [(unhide HL4).2]; exact unhide HF), HB4⟩, by simp [intOf]; omega⟩
        · have hlt1 : ¬ (i : Int) < (c0 : Int) := by omega
          have hfin : readE s.data.toList = .ok (acc, p) := by
            rw [← unhide HA, show c0 - i = 0 by omega, readHF]
          have HF := hide hfin
          clear hfin HA HL
          obtain ⟨M, hM⟩ : ∃ M, M = (acc.map ent0).length := ⟨_, rfl⟩
          rw [← hM] at hcap HO ⊢
          have HM := hide hM
          clear hM
          go_wp2
          go_ret3
          exact ⟨_, p, 0, rfl, rdE_ok (unhide HF) (by rw [← unhide HM]; exact unhide HO), unhide HB⟩
  · rw [if_pos he] at hR
    have HR := hide hR
    have hz0 : scanL (s.data.toList.drop 0) = (0, 0, e0) := by
      rcases hno with h | h | h
      · exact absurd h he
      · rw [hsc0]; simp only [Prod.mk.injEq] at h ⊢; exact ⟨h.1, h.2.1, trivial⟩
      · rw [hsc0]; simp only [Prod.mk.injEq] at h ⊢; exact ⟨h.1, h.2.1, trivial⟩
    have HR0 := hide (fun W => rdn_no s 0 e0 W hs (Nat.zero_le _) hz0 he)
    have hne : ((e0 : Int) == 0) = false := by simp; omega
    clear hR hsc hsc0 hno hz0 he
    go_enter Try.func44, Try.ntmps44
    go_wp2_with fail
    refine (unhide HR0 _).mono ?_
    rintro e w1 ⟨rfl, hb1⟩
    go_wp2
    go_ret3
    exact ⟨_, 0, e0, rfl, rdE_err (unhide HR) _ _, hb1⟩
end Go.Proofs.Ytfjjigcghhohkaa
