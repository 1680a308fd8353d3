/-
  The table of powers out of what the rows lay; what missivelaw28.LexFirst does, over this seat's program.
-/
import Derived.Test.YtafegjbhaofgiaaDoorRows
import Derived.Test.YtafegjbhaofgiaaDoorLxn
import Derived.Lib.LaidU8
import Derived.Lib.LaidTab
set_option linter.unusedVariables false
set_option linter.unusedSimpArgs false
namespace Go.Proofs.YtafegjbhaofgiaaDoor
open Go.RowKit Go.Proofs.Lx

theorem pow_laid : (Rows.laid_internal_strconv_uint64pow10 : DataW Unit) = Lib.tabData .u64 Lib.pow10Tab := by kernel_rfl
theorem powT_of {W : World} (h : Lib.VarReads Tryd.prog W "internal/strconv.uint64pow10" Rows.laid_internal_strconv_uint64pow10) : PowT W := by
  obtain ⟨g', t', cs, fuel, p, hg', ht', hvar, hd⟩ := h
  have hg : Tryd.prog.globalNamed "internal/strconv.uint64pow10" = some 3 := by kernel_rfl
  have hty : (Tryd.prog.globals[3]?).map (·.type) = some 108 := by kernel_rfl
  obtain rfl := Option.some.inj (hg.symm.trans hg')
  obtain rfl := Option.some.inj (hty.symm.trans ht')
  unfold PowT Lib.TabIs
  rw [pow_laid] at hd
  rw [hvar, ← Lib.cells_of_tab Tryd.underlying108 Tryd.underlying74 (by kernel_rfl) (by kernel_rfl) hd]

set_option maxHeartbeats 2000000 in
set_option maxRecDepth 100000 in
theorem lexFirst_walk (s m : ByteArray) (w : World) (hE : PowT w) (hs : s.size + m.size ≤ 1048576) :
    Calls Tryd.prog 6 #[.string s, .string m] w fun e w' => e = .returned (.bool true) ∧ Below w.heap.size w w' := by
  have HL := hide (livesX_any w hE)
  have HN := hide (fun W => next_any s W (by omega))
  have hsl := sizeL s
  clear hE
  obtain ⟨N1, N2, e, hnl⟩ : ∃ a b c, nextL s.data.toList = (a, b, c) := ⟨_, _, _, rfl⟩
  by_cases he : e = 0
  · subst he
    have hle := nextL_le hnl
    rw [hsl] at hle
    obtain ⟨A, hA⟩ : ∃ A, A = bts (s.data.toList.take N1) := ⟨_, rfl⟩
    obtain ⟨R, hR⟩ : ∃ R, R = bts (s.data.toList.drop N2) := ⟨_, rfl⟩
    have hAz : A.size ≤ 1048576 := by rw [hA, size_bts, List.length_take]; omega
    have hRz : R.size ≤ 1048576 := by rw [hR, size_bts, List.length_drop]; omega
    have hAs : A.size < s.size := by rw [hA, size_bts, List.length_take, hsl]; omega
    have hn1 : nxV s.data.toList = .tuple #[.string A, .string R, .int .i64 0] := by rw [nxV_ok hnl, ← hA, ← hR]
    have hd2 : (s ++ m).data.toList = s.data.toList ++ m.data.toList := by simp [ByteArray.data_append]
    have hn2 : nxV (s ++ m).data.toList = .tuple #[.string A, .string (R ++ m), .int .i64 0] := by
      rw [hd2, nxV_ok ((nextL_more m.data.toList (by rw [hnl])).trans hnl), List.take_append_of_le_length (by omega), List.drop_append_of_le_length (by omega), ← hA]
      rw [show bts (s.data.toList.drop N2 ++ m.data.toList) = R ++ m from ext_list (by rw [toList_bts, ByteArray.data_append, Array.toList_append, hR, toList_bts])]
    have hd3 : (A ++ ⟨#[13, 10]⟩ ++ m).data.toList = s.data.toList.take N1 ++ 13 :: 10 :: m.data.toList := by
      rw [ByteArray.data_append, Array.toList_append, ByteArray.data_append, Array.toList_append, hA, toList_bts, List.append_assoc]; rfl
    have hn3 : nxV (A ++ ⟨#[13, 10]⟩ ++ m).data.toList = .tuple #[.string A, .string m, .int .i64 0] := by
      have hl : (s.data.toList.take N1).length = N1 := by rw [List.length_take]; omega
      rw [hd3, nxV_ok (nextL_own m.data.toList hnl)]
      rw [show (s.data.toList.take N1 ++ 13 :: 10 :: m.data.toList).take N1 = s.data.toList.take N1 by rw [List.take_append_of_le_length (by omega), List.take_of_length_le (by omega)]]
      rw [show (s.data.toList.take N1 ++ 13 :: 10 :: m.data.toList).drop (N1 + 2) = m.data.toList by
        rw [List.drop_append, List.drop_of_length_le (by omega), hl, show N1 + 2 - N1 = 2 by omega]; rfl]
      rw [← hA, bts_toList]
    have z2 : (ByteArray.mk #[13, 10]).size = 2 := rfl
    have HN2 := hide (fun W => next_any (s ++ m) W (by rw [ByteArray.size_append]; omega))
    have HN3 := hide (fun W => next_any (A ++ ⟨#[13, 10]⟩ ++ m) W (by rw [ByteArray.size_append, ByteArray.size_append]; omega))
    rw [hn1] at HN
    rw [hn2] at HN2
    rw [hn3] at HN3
    have hAs' : (A.size : Int) < (s.size : Int) := by omega
    clear hn1 hn2 hn3 hd2 hd3 hA hR hle hnl hsl
    go_enter Tryd.func6, Tryd.ntmps6
    go_wp2_with fail
    refine (unhide HL).mono ?_
    rintro e w1 ⟨rfl, b1⟩
    have B1 := hide b1
    clear b1
    go_wp2_with fail
    refine (unhide HN _).mono ?_
    rintro e w2 ⟨rfl, b2⟩
    have B2 := hide (belows' (unhide B1) b2)
    clear b2
    go_wp2_with fail
    refine (unhide HN2 _).mono ?_
    rintro e w3 ⟨rfl, b3⟩
    have B3 := hide (belows' (unhide B2) b3)
    clear b3
    go_wp2_with fail
    refine (unhide HN3 _).mono ?_
    rintro e w4 ⟨rfl, b4⟩
    have B4 := hide (belows' (unhide B3) b4)
    clear b4
    go_wp2
    go_ret
    exact ⟨rfl, unhide B4⟩
  · have hz := nextA_err (s.data.toList.length + 1) 0 s.data.toList 0 0 (by rw [show nextA (s.data.toList.length + 1) 0 s.data.toList 0 0 = _ from hnl]; exact he)
    rw [show nextA (s.data.toList.length + 1) 0 s.data.toList 0 0 = _ from hnl] at hz
    obtain ⟨rfl, rfl⟩ : N1 = 0 ∧ N2 = 0 := hz
    rw [nxV_no hnl he] at HN
    have hq : ((e : Int) != 0) = true := by rw [bne_iff_ne]; omega
    clear hnl he hsl
    go_enter Tryd.func6, Tryd.ntmps6
    go_wp2_with fail
    refine (unhide HL).mono ?_
    rintro e' w1 ⟨rfl, b1⟩
    have B1 := hide b1
    clear b1
    go_wp2_with fail
    refine (unhide HN _).mono ?_
    rintro e' w2 ⟨rfl, b2⟩
    have B2 := hide (belows' (unhide B1) b2)
    clear b2
    go_wp2
    go_ret
    exact ⟨rfl, unhide B2⟩
end Go.Proofs.YtafegjbhaofgiaaDoor
