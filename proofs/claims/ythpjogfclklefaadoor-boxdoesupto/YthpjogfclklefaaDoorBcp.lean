/-
  What strings.Clone, slices.Clone of mails, and box.copyMails do, over this seat's program: the same bytes, the same mails, in new memory.
-/
import Derived.Test.YthpjogfclklefaaDoorBrt
import Derived.Lib.SliceRun
import Derived.Laws.OwnMore
set_option linter.unusedVariables false
set_option linter.unusedSimpArgs false
namespace Go.Proofs.YthpjogfclklefaaDoor
open Go.RowKit

theorem msgInfo : (Tryd.prog.info? 47).map (fun i => (i.zero, i.size, i.bytes)) = some (some (.agg #[.int .u32 0, .int .u8 0, .int .i64 0, .int .i64 0, .int .i64 0, .string ByteArray.empty]), 6, 48) := by kernel_rfl
theorem flatM_one (l : List Msg) : ∀ u ∈ flatG msC l, u.oneCell' = true := by
  intro u hu
  simp only [flatG, List.mem_flatMap, msC] at hu
  obtain ⟨f, _, hu⟩ := hu
  simp at hu
  rcases hu with rfl | rfl | rfl | rfl | rfl | rfl <;> rfl

set_option maxHeartbeats 400000 in
theorem bclone_any (s : ByteArray) (w : World) (hs : s.size ≤ 281474976710656) :
    Calls Tryd.prog 37 #[.string s] w fun e w' => e = .returned (.string s) ∧ Below w.heap.size w w' := by
  go_enter Tryd.func37, Tryd.ntmps37
  go_wp2_with (go_at_call 46; refine (Tryd.stringslite_Clone s _ hs).mono ?_)
  rintro e w1 ⟨rfl, hb⟩
  go_wp2
  go_ret
  exact ⟨rfl, hb⟩

set_option maxHeartbeats 2000000 in
set_option maxRecDepth 100000 in
theorem cloneM_at (a : Addr) (n c : Nat) (news : List Value) (w : World) (hl : news.length = n * 6) (hn : n ≤ 4194304) (hc : ∀ j u, news[j]? = some u → w.cell? (a.add j) = some u) (h1 : ∀ u ∈ news, u.oneCell' = true) :
    Calls Tryd.prog 36 #[.slice (some a) n c] w fun e w' => ∃ v', e = .returned v' ∧ w'.ownsRow w.heap.size 47 6 v' n news ∧ Below w.heap.size w w' := by
  obtain ⟨i0, hi, hz0, hz1, hz2⟩ := info_parts msgInfo
  have q22 : ∀ (w : World) (a : Option Addr) (n c n' c' : Nat), (binOp .eql 24 (.slice a n c) (.slice none n' c')).run Tryd.prog w = .ok (.bool a.isNone) w := fun w a n c n' c' => Lib.run_eql_slice_nil w _ _ a n c n' c' Tryd.underlying24
  have HC := hide hc
  clear hc
  go_enter Tryd.func36, Tryd.ntmps36
  go_wp2_with (at_builtin; refine wpList_append_own _ rfl _ _ 24 rfl w.heap.size 47 i0 _ 6 48 Tryd.underlying24 hi hz0 hz1 hz2 rfl (by decide) _ _ _ rfl (World.ownsRow_made w #[] 0 (Nat.le_refl _) (Nat.zero_le _) (by simp)) a n c news rfl ?qc1 ?qc2 ?qc3 ?qc4 ?qc5 ?qc6 ?_)
  case qc1 => exact hl
  case qc2 =>
    intro j u hj
    have := unhide HC j u hj
    rw [← this]
    exact ((Below.refl w.heap.size w).alloc (Nat.le_refl _) _).cell (World.block_lt_of_cell? w _ this)
  case qc3 => exact h1
  case qc4 => unfold maxLen; omega
  case qc5 => omega
  case qc6 => simp
  intro v' w1 hown hgrow hnil
  go_wp2
  go_ret
  refine ⟨v', rfl, by simpa using hown, ?_⟩
  exact ((Below.refl _ w).alloc (Nat.le_refl _) _).grown hgrow (by simp) (by intro k hk; simp [Value.ownBlock] at hk; omega)

set_option maxHeartbeats 1000000 in
theorem cloneM_nil (n c : Nat) (w : World) :
    Calls Tryd.prog 36 #[.slice none n c] w fun e w' => e = .returned (.slice none 0 0) ∧ w' = w := by
  have q22 : ∀ (w : World) (a : Option Addr) (n c n' c' : Nat), (binOp .eql 24 (.slice a n c) (.slice none n' c')).run Tryd.prog w = .ok (.bool a.isNone) w := fun w a n c n' c' => Lib.run_eql_slice_nil w _ _ a n c n' c' Tryd.underlying24
  go_enter Tryd.func36, Tryd.ntmps36
  go_wp2
  go_ret
  exact ⟨rfl, rfl⟩

/-- slices.Clone answers the same mails, in memory of its own. -/
theorem cloneM_any (v : Value) (l : List Msg) (w : World) (hn : l.length ≤ 4194304) (h : RowM w v l) :
    Calls Tryd.prog 36 #[v] w fun e w' => ∃ v', e = .returned v' ∧ w'.ownsRow w.heap.size 47 6 v' l.length (flatG msC l) ∧ Below w.heap.size w w' := by
  obtain ⟨a, cap, rfl, _, _, hc⟩ := h
  rcases hc with rfl | ⟨b, off, rfl, hb, hc⟩
  · cases a with
    | none =>
      refine (cloneM_nil 0 cap w).mono ?_
      rintro e w1 ⟨rfl, rfl⟩
      exact ⟨_, rfl, World.ownsRow_nil _ _ _ _, Below.refl _ _⟩
    | some a => exact cloneM_at a 0 cap [] w rfl (by omega) (fun j u hj => by simp at hj) (fun u hu => by simp at hu)
  · refine cloneM_at ⟨b, off, none⟩ l.length cap (flatG msC l) w (flatG_length msC_len l) hn (fun j u hj => ?_) (flatM_one l)
    rw [Addr.add_lit]
    exact hc j u hj

/-- A cell of an own row, written over by itself. -/
theorem own_againM {w : World} {B : Nat} {l : List Msg} {g n cap : Nat} (h : w.ownsRow B 47 6 (.slice (some ⟨g, 0, none⟩) n cap) n (flatG msC l)) {j : Nat} {u : Value} (hu : (flatG msC l)[j]? = some u) :
    (w.setCell ⟨g, j, none⟩ u).ownsRow B 47 6 (.slice (some ⟨g, 0, none⟩) n cap) n (flatG msC l) := by
  have := (h.stored j u).1
  have e : (flatG msC l).set j u = flatG msC l := by
    apply List.ext_getElem?
    intro i
    rw [List.getElem?_set]
    by_cases h1 : j = i
    · subst h1
      have hj : j < (flatG msC l).length := (List.getElem?_eq_some_iff.1 hu).1
      simp [hj, (List.getElem?_eq_some_iff.1 hu).2]
    · simp [h1]
  rwa [e] at this

set_option maxHeartbeats 4000000 in
set_option maxRecDepth 100000 in
theorem copyMails_any (v : Value) (l : List Msg) (w : World) (hn : l.length ≤ 4194304) (h : RowM w v l) :
    Calls Tryd.prog 25 #[v] w fun e w' => ∃ v', e = .returned v' ∧ w'.ownsRow w.heap.size 47 6 v' l.length (flatG msC l) ∧ Below w.heap.size w w' := by
  have HCL := hide (cloneM_any v l w hn h)
  obtain ⟨a, cap, rfl, hl, hfit, _⟩ := h
  have HF := hide hfit
  obtain ⟨n, hnn⟩ : ∃ n, l.length = n := ⟨_, rfl⟩
  rw [hnn] at HCL hl hn ⊢
  have HN := hide hnn
  clear hnn hfit
  go_enter Tryd.func25, Tryd.ntmps25
  go_wp2_with fail
  refine (unhide HCL).mono ?_
  rintro e w1 ⟨v', rfl, hown, b1⟩
  obtain ⟨a', cap', rfl, hcap⟩ := own_sliceG hown
  have HO1 := hide hown
  have HB1 := hide b1
  clear hown b1 HCL
  go_wp2
  go_loopw [4, 9] (fun _ z wr => ∃ k : Nat, z = .int .i64 k ∧ k ≤ n ∧ Hid (wr.ownsRow w.heap.size 47 6 (.slice a' n cap') n (flatG msC l)) ∧ Hid (Below w.heap.size w wr)) (fun _ z _ => n - (intOf z).toNat)
  case atStart => exact ⟨0, rfl, Nat.zero_le _, HO1, HB1⟩
  case round =>
    obtain ⟨k, rfl, hk, OWN, BW⟩ := hrel
    clear HO1 HB1
    by_cases hlt : k < n
    · have hlt1 : (k : Int) < (n : Int) := by omega
      have hkl : k < l.length := by rw [unhide HN]; exact hlt
      have hown := unhide OWN
      rw [← unhide HN] at hown
      obtain ⟨g, cap2, hv2, hBg, hgs, hcells, hfz⟩ := ownG_at msC_len hown hkl
      injection hv2 with e1 e2 e3
      subst e1
      clear e2 e3
      have x5 := hcells 5 (by omega)
      have y5 := hfz (k * 6 + 5)
      have hr := (unhide HF _ (List.getElem_mem hkl)).2.2.2.2.2
      have HX := hide (show (flatG msC l)[k * 6 + 5]? = some (.string l[k].raw) from (flatG_get msC_len l k hkl 5 (by omega)).trans rfl)
      have x5b : wr.cell? ⟨g, k * 6 + 5, none⟩ = some (.string l[k].raw) := x5
      clear hcells hfz hown x5
      generalize l[k].raw = raw at x5b hr HX
      have hcn := hide (fun w => bclone_any raw w (by omega))
      go_wp2_with fail
      refine (unhide hcn _).mono ?_
      rintro e w3 ⟨rfl, b3⟩
      have z5 := (b3.cell (p := ⟨g, k * 6 + 5, none⟩) hgs).trans x5b
      have f5 := (b3.frozen (p := ⟨g, k * 6 + 5, none⟩) hgs).trans y5
      have N2 := hide (own_againM (own_below (unhide OWN) b3) (unhide HX))
      have N3 := hide ((belows' (unhide BW) b3).setCell (p := ⟨g, k * 6 + 5, none⟩) hBg (.string raw))
      clear b3 x5b y5 HX OWN BW hcn
      go_wp2
      exact ⟨⟨k + 1, by go_num, by omega, N2, N3⟩, by simp [intOf]; omega⟩
    · have hlt1 : ¬ (k : Int) < (n : Int) := by omega
      go_wp2
      go_ret
      exact ⟨_, rfl, unhide OWN, unhide BW⟩
end Go.Proofs.YthpjogfclklefaaDoor
