/-
  What missiveref28.token does with a closing bracket, and with an atom, over this seat's program.
-/
import Derived.Test.YtafegjbhaofgiaaDoorLyd
set_option linter.unusedVariables false
set_option linter.unusedSimpArgs false
namespace Go.Proofs.YtafegjbhaofgiaaDoor
open Go.RowKit Go.Proofs.Lx

set_option maxHeartbeats 2000000 in
set_option maxRecDepth 100000 in
theorem refTok_shut (s : ByteArray) (w : World) (h1 : 1 ≤ s.size) (hs : s.size ≤ 4294967296) (c41 : s[0] = 41) :
    Calls Tryd.prog 31 #[.string s] w fun e w' => (∃ v, e = .returned v ∧ RefTV s.data.toList v) ∧ Below w.heap.size w w' := by
  have he : s.toList.isEmpty = false := by rw [is_empty]; exact decide_eq_false (by omega)
  have hlt : (0 : Int) < (s.size : Int) := by omega
  have h1' : (1 : Int) ≤ (s.size : Int) := by omega
  have hcl := s[0].toNat_lt
  have hl : s.data.toList = s[0] :: s.data.toList.drop 1 := by
    have := drop_byte s 0 h1
    rwa [List.drop_zero] at this
  have HF : Hid (tokA s.data.toList = some ((4, [41]), 1)) := hide (by rw [hl]; simp only [tokA]; rw [if_neg (by rw [c41]; decide), if_pos c41])
  have e40 : ((s[0].toNat : Int) == 40) = false := by rw [c41]; rfl
  have e41 : ((s[0].toNat : Int) == 41) = true := by rw [c41]; rfl
  have hsl := fun W => slice_from s 1 1 rfl h1 W
  have HX := hide (show bts (s.data.toList.drop 1) = s.extract 1 s.size from ext_list (by rw [toList_bts, toList_from]))
  have HT0 := hide (OneT.new w)
  clear hl c41
  go_enter Tryd.func31, Tryd.ntmps31
  go_upto_region 1 with (fail)
  rw [show World.alloc w (.cells #[.int .u8 0, .string ⟨#[]⟩] 39) = w.alloc (.cells zTok 39) from rfl]
  generalize w.alloc (.cells zTok 39) = W at HT0 ⊢
  have c00 := (unhide HT0).k0.cell 0
  have c01 := (unhide HT0).k0.cell 1
  have f00 := (unhide HT0).k0.frozen 0
  have f01 := (unhide HT0).k0.frozen 1
  simp only [zTok, List.getElem?_toArray, List.getElem?_cons_succ, List.getElem?_cons_zero] at c00 c01
  go_wp2
  go_region_with (fail)
  (try go_simp)
  (try go_wp2)
  (try simp only [Exit.inBlock, Exit.then])
  refine bodyPost_ret (v := .tuple #[.agg #[.int .u8 4, .string ⟨#[41]⟩], .string (s.extract 1 s.size), .bool true]) ?_ rfl ⟨⟨_, rfl, refTV_some (unhide HF) (by rw [unhide HX]; rfl)⟩, (unhide HT0).fin' _ _⟩
  rw [results_cell_tmp2 rfl]
  go_simp
set_option maxHeartbeats 2000000 in
set_option maxRecDepth 100000 in
theorem refTok_atom (s : ByteArray) (w : World) (h1 : 1 ≤ s.size) (hs : s.size ≤ 4194304) (hc0 : ¬ s[0] = 40 ∧ ¬ s[0] = 41 ∧ ¬ s[0] = 34 ∧ ¬ s[0] = 123) :
    Calls Tryd.prog 31 #[.string s] w fun e w' => (∃ v, e = .returned v ∧ RefTV s.data.toList v) ∧ Below w.heap.size w w' := by
  have he : s.toList.isEmpty = false := by rw [is_empty]; exact decide_eq_false (by omega)
  have hlt0 : (0 : Int) < (s.size : Int) := by omega
  have hcl := s[0].toNat_lt
  have hl : s.data.toList = s[0] :: s.data.toList.drop 1 := by
    have := drop_byte s 0 h1
    rwa [List.drop_zero] at this
  have HT0 := hide (OneT.new w)
  have e40 : ((s[0].toNat : Int) == 40) = false := ne_byte (b := 40) hc0.1 rfl
  have e41 : ((s[0].toNat : Int) == 41) = false := ne_byte (b := 41) hc0.2.1 rfl
  have e34 : ((s[0].toNat : Int) == 34) = false := ne_byte (b := 34) hc0.2.2.1 rfl
  have e123 : ((s[0].toNat : Int) == 123) = false := ne_byte (b := 123) hc0.2.2.2 rfl
  have HTK : Hid (tokA s.data.toList = if atomL s.data.toList = 0 then none else some ((1, s.data.toList.take (atomL s.data.toList)), atomL s.data.toList)) := hide (by
    conv => lhs; rw [hl]
    simp only [tokA]; rw [if_neg hc0.1, if_neg hc0.2.1, if_neg hc0.2.2.1, if_neg hc0.2.2.2, ← hl])
  clear hl hc0
  go_enter Tryd.func31, Tryd.ntmps31
  go_upto_region 1 with (fail)
  rw [show World.alloc w (.cells #[.int .u8 0, .string ⟨#[]⟩] 39) = w.alloc (.cells zTok 39) from rfl]
  have HWE := hide (show (w.alloc (.cells zTok 39)).heap.size = w.heap.size + 1 by simp)
  generalize w.alloc (.cells zTok 39) = W at HT0 HWE ⊢
  go_wp2
  go_loop [13] (fun zi => ∃ k : Nat, zi = .int .i64 k ∧ k ≤ s.size ∧ Hid (k + atomL (s.data.toList.drop k) = atomL s.data.toList)) (fun zi => s.size - (intOf zi).toNat)
  case atStart => exact ⟨0, rfl, Nat.zero_le _, hide (by simp)⟩
  case round =>
    obtain ⟨k, rfl, hk, HE⟩ := hrel
    have HEND : Hid (∀ k, k ≤ s.size → k = atomL s.data.toList → RefTV s.data.toList (.tuple #[.agg #[.int .u8 1, .string (s.extract 0 k)], .string (s.extract k s.size), .bool (decide (0 < k))])) := hide (fun k hk2 hka => by
      have x1 : s.extract 0 k = bts (s.data.toList.take k) := ext_list (by rw [toList_bts, toList_upto])
      have x2 : s.extract k s.size = bts (s.data.toList.drop k) := ext_list (by rw [toList_bts, toList_from])
      have htk := unhide HTK
      rw [← hka] at htk
      by_cases h0 : k = 0
      · rw [if_pos h0] at htk
        exact refTV_none htk ⟨1, s.extract 0 k, s.extract k s.size, by rw [h0]; rfl⟩
      · rw [if_neg h0] at htk
        exact refTV_some htk (by rw [decide_eq_true (by omega), x1, x2]; rfl))
    have hdec : ∀ k : Nat, decide ((0 : Int) < (k : Int)) = decide (0 < k) := fun k => by rw [Bool.eq_iff_iff]; simp
    by_cases hlt : k < s.size
    · have hlt' : (k : Int) < (s.size : Int) := by omega
      have hck := s[k].toNat_lt
      have hd := unhide HE
      rw [drop_byte s k hlt, atomL] at hd
      have HI := hide (fun W => refLetter_any s[k] W)
      cases hi : isA s[k] with
      | true =>
        rw [hi] at HI hd
        rw [if_pos rfl] at hd
        have HE2 : Hid ((k + 1) + atomL (s.data.toList.drop (k + 1)) = atomL s.data.toList) := hide (by omega)
        clear hd HE hi HEND hdec
        go_wp2_with fail
        refine (unhide HI _).mono ?_
        rintro e w1 ⟨rfl, h1⟩
        subst h1
        go_wp2
        go_round
        case rel => exact ⟨k + 1, by go_num, by omega, HE2⟩
        case measure => simp [intOf]; omega
      | false =>
        rw [hi] at HI hd
        rw [if_neg (by decide)] at hd
        have HR := hide (unhide HEND k hk (by omega))
        have hdk := hdec k
        obtain ⟨r, hr⟩ : ∃ r, r = decide (0 < k) := ⟨_, rfl⟩
        rw [← hr] at HR hdk
        clear hd HE hi HEND hdec
        have hsl1 := fun W => slice_upto s (k : Int) k rfl (by omega) W
        have hsl2 := fun W => slice_from s (k : Int) k rfl (by omega) W
        go_wp2_with fail
        refine (unhide HI _).mono ?_
        rintro e w1 ⟨rfl, h1⟩
        subst h1
        have c00 := (unhide HT0).k0.cell 0
        have c01 := (unhide HT0).k0.cell 1
        have f00 := (unhide HT0).k0.frozen 0
        have f01 := (unhide HT0).k0.frozen 1
        simp only [zTok, List.getElem?_toArray, List.getElem?_cons_succ, List.getElem?_cons_zero] at c00 c01
        go_wp2
        go_region_with (fail)
        (try go_simp)
        (try go_wp2)
        (try simp only [Exit.inBlock, Exit.then])
        refine bodyPost_ret (v := .tuple #[.agg #[.int .u8 1, .string (s.extract 0 k)], .string (s.extract k s.size), .bool r]) ?_ rfl ⟨⟨_, rfl, unhide HR⟩, (unhide HT0).fin' _ _⟩
        rw [results_cell_tmp2 rfl]
        go_simp
        (try exact hr.symm)
    · have hlt' : ¬ (k : Int) < (s.size : Int) := by omega
      have hd := unhide HE
      rw [drop_end s (by omega), atomL] at hd
      have HR := hide (unhide HEND k hk (by omega))
      have hdk := hdec k
      obtain ⟨r, hr⟩ : ∃ r, r = decide (0 < k) := ⟨_, rfl⟩
      rw [← hr] at HR hdk
      clear hd HE HEND hdec
      have hsl1 := fun W => slice_upto s (k : Int) k rfl (by omega) W
      have hsl2 := fun W => slice_from s (k : Int) k rfl (by omega) W
      have c00 := (unhide HT0).k0.cell 0
      have c01 := (unhide HT0).k0.cell 1
      have f00 := (unhide HT0).k0.frozen 0
      have f01 := (unhide HT0).k0.frozen 1
      simp only [zTok, List.getElem?_toArray, List.getElem?_cons_succ, List.getElem?_cons_zero] at c00 c01
      go_wp2
      go_region_with (fail)
      (try go_simp)
      (try go_wp2)
      (try simp only [Exit.inBlock, Exit.then])
      refine bodyPost_ret (v := .tuple #[.agg #[.int .u8 1, .string (s.extract 0 k)], .string (s.extract k s.size), .bool r]) ?_ rfl ⟨⟨_, rfl, unhide HR⟩, (unhide HT0).fin' _ _⟩
      rw [results_cell_tmp2 rfl]
      go_simp
      (try exact hr.symm)
end Go.Proofs.YtafegjbhaofgiaaDoor
