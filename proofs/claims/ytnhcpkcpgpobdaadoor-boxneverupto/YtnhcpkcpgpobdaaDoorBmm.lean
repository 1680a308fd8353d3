/-
  What marking does to a box's mails (plain mathematics); slices.Clone of numbers, appends of places, over this seat's program.
-/
import Derived.Test.YtnhcpkcpgpobdaaDoorBpt
set_option linter.unusedVariables false
set_option linter.unusedSimpArgs false
namespace Go.Proofs.YtnhcpkcpgpobdaaDoor
open Go.RowKit

def mkM (c : Chg) (m : Msg) : Msg := ⟨m.uid, markF c.kd m.fl c.fl, m.dy, m.sc, m.zn, m.raw⟩
def markM (c : Chg) (m : Msg) : Msg := if m.uid ∈ c.us then mkM c m else m
def allIn (b : Bx) (c : Chg) : Bool := c.us.all (fun u => decide (u ∈ uidsM b.ms))
def markB (b : Bx) (c : Chg) : Bx := if allIn b c = true then ⟨b.va, b.nx, b.mr, b.la, b.ms.map (markM c)⟩ else b
def markT (b : Bx) (c : Chg) : List Nat := if allIn b c = true then c.us else []
def markE (b : Bx) (c : Chg) : Nat := if allIn b c = true then 0 else 3
/-- The mails behind the first places' marking. -/
def mkL (c : Chg) (l : List Msg) : List Nat → List Msg
  | [] => l
  | i :: r => mkL c (l.modify i (mkM c)) r
theorem mkL_snoc (c : Chg) (r : List Nat) : ∀ (l : List Msg) (i : Nat), mkL c l (r ++ [i]) = (mkL c l r).modify i (mkM c) := by
  induction r with
  | nil => intro l i; rfl
  | cons x r ih => intro l i; exact ih _ i
theorem mkL_len (c : Chg) (r : List Nat) : ∀ l : List Msg, (mkL c l r).length = l.length := by
  induction r with
  | nil => intro l; rfl
  | cons x r ih => intro l; show (mkL c (l.modify x (mkM c)) r).length = _; rw [ih]; simp
theorem mkM_fit {c : Chg} {m : Msg} (hc : c.fl ≤ 255) (h : FitM m) : FitM (mkM c m) := ⟨h.1, markF_le h.2.1 hc, h.2.2⟩
theorem modify_mem {l : List Msg} {i : Nat} {f : Msg → Msg} {x : Msg} (h : x ∈ l.modify i f) : x ∈ l ∨ ∃ y ∈ l, x = f y := by
  obtain ⟨k, hk, rfl⟩ := List.getElem_of_mem h
  rw [List.getElem_modify]
  rw [List.length_modify] at hk
  split
  · exact Or.inr ⟨_, List.getElem_mem hk, rfl⟩
  · exact Or.inl (List.getElem_mem hk)
theorem mkL_fit {c : Chg} (hc : c.fl ≤ 255) (r : List Nat) : ∀ {l : List Msg}, (∀ m ∈ l, FitM m) → ∀ m ∈ mkL c l r, FitM m := by
  induction r with
  | nil => intro l h; exact h
  | cons x r ih =>
    intro l h
    refine ih (fun m hm => ?_)
    rcases modify_mem hm with h1 | ⟨y, hy, rfl⟩
    · exact h m h1
    · exact mkM_fit hc (h y hy)
/-- Where places do not come twice each is marked once. -/
theorem mkL_get (c : Chg) (r : List Nat) : ∀ (l : List Msg) (i : Nat), r.Nodup → (mkL c l r)[i]? = (l[i]?).map (fun m => if i ∈ r then mkM c m else m) := by
  induction r with
  | nil => intro l i _; simp [mkL]
  | cons x r ih =>
    intro l i hn
    rw [List.nodup_cons] at hn
    show (mkL c (l.modify x (mkM c)) r)[i]? = _
    rw [ih _ i hn.2, List.getElem?_modify]
    cases hl : l[i]? with
    | none => simp
    | some m =>
      by_cases hx : x = i
      · subst hx
        simp [hn.1]
      · have hx2 : ¬ i = x := fun e => hx e.symm
        simp [hx, hx2]
theorem AtU.inj {l : List Msg} {i u u' : Nat} (h : AtU l i u) (h' : AtU l i u') : u = u' := by
  obtain ⟨m, hm, hu⟩ := h
  obtain ⟨m', hm', hu'⟩ := h'
  rw [hm] at hm'
  injection hm' with e
  rw [← hu, ← hu', e]
/-- The places of all numbers, marked, are all mails, marked. -/
theorem mkL_all {c : Chg} {l : List Msg} {pl : List Nat} (hr : (uidsM l).Pairwise (· < ·)) (hus : c.us.Pairwise (· < ·)) (hlen : pl.length = c.us.length) (hat : ∀ i (h : i < pl.length), ∃ u, c.us[i]? = some u ∧ AtU l pl[i] u) : mkL c l pl = l.map (markM c) := by
  have hnd : pl.Nodup := by
    rw [List.nodup_iff_pairwise_ne, List.pairwise_iff_getElem]
    intro i j hi hj hij he
    obtain ⟨u, hu, h1⟩ := hat i hi
    obtain ⟨v, hv, h2⟩ := hat j hj
    rw [← he] at h2
    have := h1.inj h2
    subst this
    obtain ⟨a1, a2⟩ := List.getElem?_eq_some_iff.1 hu
    obtain ⟨b1, b2⟩ := List.getElem?_eq_some_iff.1 hv
    have := List.pairwise_iff_getElem.1 hus i j a1 b1 hij
    omega
  apply List.ext_getElem?
  intro i
  rw [mkL_get c pl l i hnd, List.getElem?_map]
  cases hl : l[i]? with
  | none => rfl
  | some m =>
    simp only [Option.map_some, Option.some.injEq]
    unfold markM
    have key : i ∈ pl ↔ m.uid ∈ c.us := by
      constructor
      · intro h
        obtain ⟨k, hk, rfl⟩ := List.getElem_of_mem h
        obtain ⟨u, hu, h1⟩ := hat k hk
        have := h1.inj ⟨m, hl, rfl⟩
        subst this
        exact List.mem_of_getElem? hu
      · intro h
        obtain ⟨k, hk, he⟩ := List.getElem_of_mem h
        obtain ⟨u, hu, h1⟩ := hat k (by omega)
        rw [List.getElem?_eq_getElem hk] at hu
        injection hu with hu
        have h2 : AtU l i u := ⟨m, hl, by rw [← he, hu]⟩
        have : pl[k]'(by omega) = i := (h1.idx hr).symm.trans (h2.idx hr)
        rw [← this]
        exact List.getElem_mem _
    by_cases hi : i ∈ pl
    · rw [if_pos hi, if_pos (key.1 hi)]
    · rw [if_neg hi, if_neg (fun h => hi (key.2 h))]

def cellsI (n : Nat) : List Value := [.int .i64 (n : Int)]
theorem cellsI_len (n : Nat) : (cellsI n).length = 1 := rfl
theorem intInfo : (Tryd.prog.info? 3).map (fun i => (i.zero, i.size, i.bytes)) = some (some (.int .i64 0), 1, 8) := by kernel_rfl
theorem run_appI (w : World) (B : Nat) (v : Value) (l : List Nat) (p : Nat) (ty : TypeId) (hown : w.ownsRow B 3 1 v l.length (flatG cellsI l)) (hl : l.length ≤ 4194304) (hB : B ≤ w.heap.size) :
    ∃ v' w', (Builtin.append_ #[80, 80] ty #[v, .slice (some ⟨w.heap.size, 0, none⟩) 1 1]).run Tryd.prog (w.alloc (.cells #[.int .i64 (p : Int)] 3)) = .ok v' w' ∧ w'.ownsRow B 3 1 v' (l ++ [p]).length (flatG cellsI (l ++ [p])) ∧ Below B w w' :=
  run_appG cellsI 1 8 cellsI_len 3 80 (.int .i64 0) Tryd.underlying80 intInfo rfl (by decide) (by decide) (by decide) (by intro x u hu; simp [cellsI] at hu; subst hu; rfl) w B v l p ty hown hl hB

set_option maxHeartbeats 2000000 in
set_option maxRecDepth 100000 in
theorem clone32_at (a : Addr) (n c : Nat) (news : List Value) (w : World) (hl : news.length = n * 1) (hn : n ≤ 4194304) (hc : ∀ j u, news[j]? = some u → w.cell? (a.add j) = some u) (h1 : ∀ u ∈ news, u.oneCell' = true) :
    Calls Tryd.prog 52 #[.slice (some a) n c] w fun e w' => ∃ v', e = .returned v' ∧ w'.ownsRow w.heap.size 22 1 v' n news ∧ Below w.heap.size w w' := by
  obtain ⟨i0, hi, hz0, hz1, hz2⟩ := info_parts u32Info
  have q22 : ∀ (w : World) (a : Option Addr) (n c n' c' : Nat), (binOp .eql 28 (.slice a n c) (.slice none n' c')).run Tryd.prog w = .ok (.bool a.isNone) w := fun w a n c n' c' => Lib.run_eql_slice_nil w _ _ a n c n' c' Tryd.underlying28
  have HC := hide hc
  clear hc
  go_enter Tryd.func52, Tryd.ntmps52
  go_wp2_with (at_builtin; refine wpList_append_own _ rfl _ _ 28 rfl w.heap.size 22 i0 _ 1 4 Tryd.underlying28 hi hz0 hz1 hz2 rfl (by decide) _ _ _ rfl (World.ownsRow_made w #[] 0 (Nat.le_refl _) (Nat.zero_le _) (by simp)) a n c news rfl ?qc1 ?qc2 ?qc3 ?qc4 ?qc5 ?qc6 ?_)
  case qc1 => exact hl
  case qc2 =>
    intro j u hj
    have := unhide HC j u hj
    rw [← this]
    exact ((Below.refl w.heap.size w).alloc (Nat.le_refl _) _).cell (World.block_lt_of_cell? w _ this)
  case qc3 => exact h1
  case qc4 => unfold maxLen; omega
  case qc5 => omega
  case qc6 => simp
  intro v' w1 hown hgrow hnil
  go_wp2
  go_ret
  refine ⟨v', rfl, by simpa using hown, ?_⟩
  exact ((Below.refl _ w).alloc (Nat.le_refl _) _).grown hgrow (by simp) (by intro k hk; simp [Value.ownBlock] at hk; omega)
theorem bclone32_any (v : Value) (l : List Nat) (w : World) (hn : l.length ≤ 4194304) (h : Row32 w v l) :
    Calls Tryd.prog 52 #[v] w fun e w' => ∃ v', e = .returned v' ∧ w'.ownsRow w.heap.size 22 1 v' l.length (flatG cells32 l) ∧ Below w.heap.size w w' := by
  obtain ⟨a, cap, rfl, _, _, hc⟩ := h
  rcases hc with rfl | ⟨b, off, rfl, hb, hc⟩
  · cases a with
    | none =>
      refine (Tryd.slices_Clone_nil 0 cap w).mono ?_
      rintro e w1 ⟨rfl, rfl⟩
      exact ⟨_, rfl, World.ownsRow_nil _ _ _ _, Below.refl _ _⟩
    | some a => exact clone32_at a 0 cap [] w rfl (by omega) (fun j u hj => by simp at hj) (fun u hu => by simp at hu)
  · refine clone32_at ⟨b, off, none⟩ l.length cap (flatG cells32 l) w (flatG_length cells32_len l) hn (fun j u hj => ?_) (fun u hu => ?_)
    · rw [Addr.add_lit]
      exact hc j u hj
    · obtain ⟨x, _, hx⟩ := List.mem_flatMap.1 hu
      simp [cells32] at hx
      subst hx
      rfl
end Go.Proofs.YtnhcpkcpgpobdaaDoor
