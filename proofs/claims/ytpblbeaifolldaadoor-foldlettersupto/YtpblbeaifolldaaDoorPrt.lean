/-
  What fold.Parts does at the letters a, b, c, a, b, over this seat's program: three parts, that rise.
-/
import Derived.Test.YtpblbeaifolldaaDoorSrt
import Derived.Deep.RegionLaw
set_option linter.unusedVariables false
namespace Go.Proofs.YtpblbeaifolldaaDoor
open Go.RowKit Go.Proofs.Rns

/-- append to a row that the call owns, as one step of a region that draws. -/
theorem step_append_own {P : Program} {ops : Array Oper} {o : Oper} {a : Act} {w : World} {K : Act → World → Prop} {Q : Exit → Act → World → Prop} {E : Prop} (hgd : o.guard = none) (s x : Operand) (t : TypeId)
    (ho : o.op = .call { callee := .builtin .append, args := #[s, x], argTypes := #[t, t] })
    (base : Nat) (e : TypeId) (i : TypeInfo) (z : Value) (size bytes : Nat) (ht : P.underlying t = some (.slice e)) (hi : P.info? e = some i) (hz : i.zero = some z)
    (hsize : i.size = size) (hby : i.bytes = bytes) (hzs : z.cells.size = size) (hsz : 0 < size)
    (v : Value) (n : Nat) (xs : List Value) (hs : a.eval s = v) (hown : w.ownsRow base e size v n xs)
    (ad : Addr) (m c : Nat) (news : List Value) (hx : a.eval x = .slice (some ad) m c) (hl : news.length = m * size) (hnews : ∀ j u, news[j]? = some u → w.cell? (ad.add j) = some u) (h1 : ∀ u ∈ news, u.oneCell' = true)
    (h63 : n + m ≤ maxLen) (hbytes : (n + m) * bytes ≤ 140737488355328) (hbase : base ≤ w.heap.size)
    (h : ∀ v' w', w'.ownsRow base e size v' (n + m) (xs ++ news) → w.grownBy w' v.ownBlock → K (a.put o.dst v') w') :
    if Region.wanted o (yielded ops a.tmps) = true then Oper.wp P o a w K Q else E := by
  have hw : Region.wanted o (yielded ops a.tmps) = true := by simp [Region.wanted, hgd]
  rw [if_pos hw]
  exact wp_append_own w s x t ho base e i z size bytes ht hi hz hsize hby hzs hsz v n xs hs hown ad m c news hx hl hnews h1 h63 hbytes hbase fun v' w' h2 h3 _ => h v' w' h2 h3

theorem one_cell (w : World) (v : Value) (t : TypeId) : ∀ j u, [v][j]? = some u → (w.alloc (.cells #[v] t)).cell? (Addr.add ⟨w.heap.size, 0, none⟩ j) = some u := by
  intro j u hj
  match j, hj with
  | 0, hj => simp at hj; subst hj; simp [Addr.add]


theorem own_grown {w wr w2 : World} {o : Obj} {B : Nat} {e : TypeId} {v : Value} {n : Nat} {xs : List Value} (hown : wr.ownsRow B e 1 v n xs) (hgrow : (wr.alloc o).grownBy w2 v.ownBlock) (hbw : Below B w wr) (hB : B ≤ wr.heap.size) : Below B w w2 :=
  (hbw.alloc hB _).grown hgrow (by simp; omega) (fun k hk => by
    rcases hown.2 with ⟨rfl, _⟩ | ⟨g, cap, cur, rfl, hg, _⟩
    · simp [Value.ownBlock] at hk
    · simp [Value.ownBlock] at hk; omega)
theorem uInfo : (Tryd.prog.info? 35).map (fun i => (i.zero, i.size, i.bytes)) = some (some (.int .u64 0), 1, 8) := by kernel_rfl
/-- The letters, and their parts. -/
def abc : List Int := [97, 98, 99, 97, 98]
def abcP : List Int := [426610717098083, 431008765706337, 435406808023138]
def abcV (k : Nat) : Int := bits .or .u64 (bits .or .u64 (abc.getD k 0 * 4398046511104) (abc.getD (k + 1) 0 * 2097152)) (abc.getD (k + 2) 0)
theorem abcV_eq : ∀ k : Fin 3, abcV k.val = abcP.getD k.val 0 := by decide +kernel
/-- Numbers' cells. -/
def u64C (l : List Int) : List Value := l.map fun n => Value.int .u64 n
theorem own_urow {w : World} {B : Nat} {l : List Int} {v : Value} (h : w.ownsRow B 35 1 v l.length (u64C l)) (hl : l ≠ []) : ∃ g cap, v = .slice (some ⟨g, 0, none⟩) l.length cap ∧ B ≤ g ∧ g < w.heap.size ∧ URow w g l := by
  rcases h.2 with ⟨hv, h0⟩ | ⟨g, cap, cur, hv, hg, hh, hn', hm, hs, ht⟩
  · exact absurd (List.eq_nil_of_length_eq_zero h0) hl
  · refine ⟨g, cap, hv, hg, (Array.getElem?_eq_some_iff.1 hh).1, fun j hj => ?_⟩
    have h1 : (cur.toList.take (l.length * 1))[j]? = (u64C l)[j]? := by rw [ht]
    have h2 : (u64C l)[j]? = some (.int .u64 l[j]) := by simp [u64C, List.getElem?_eq_getElem hj]
    rw [h2, List.getElem?_take, if_pos (by omega)] at h1
    simp only [World.cell?, hh]
    simpa using h1

set_option maxHeartbeats 2000000 in
set_option maxRecDepth 100000 in
theorem parts_abc (v : Value) (w : World) (h : RowI w v abc) :
    Calls Tryd.prog 18 #[v] w fun e w' => ∃ g cap, e = .returned (.slice (some ⟨g, 0, none⟩) 3 cap) ∧ URow w' g abcP ∧ g < w'.heap.size ∧ Below w.heap.size w w' := by
  obtain ⟨i0, hi, hz0, hz1, hz2⟩ := info_parts uInfo
  obtain ⟨a, cap, rfl, hn, hc⟩ := h
  rcases hc with hc | ⟨b, off, rfl, hb, hc⟩
  · exact absurd hc (by decide)
  have HC := hide hc
  clear hc hn
  obtain ⟨n, hn⟩ : ∃ n, abc.length = n := ⟨_, rfl⟩
  obtain ⟨m, hm⟩ : ∃ m, m = 3 := ⟨_, rfl⟩
  have hn5 : n = 5 := hn.symm
  rw [hn] at *
  have v0 : IntKind.i64.wrap ((n : Int) - 2) = (m : Int) := by rw [IntKind.wrap_i64]; omega
  have v00 : wrap64 ((n : Int) - 2) = (m : Int) := by unfold wrap64; omega
  obtain ⟨w3, hmk, hown3, hg3⟩ := run_make_own (P := Tryd.prog) w w.heap.size 30 35 i0 (.int .u64 0) 1 Tryd.underlying30 hi hz0 hz1 .i64 .i64 m (by rw [hz2]; omega) (by unfold maxLen; omega) (Nat.le_refl _)
  have b3 : Below w.heap.size w w3 := ⟨hg3.os, hg3.tape, hg3.output, hg3.size, fun i hi' => hg3.block i hi' (by simp)⟩
  have HO3 := hide hown3
  have HB3 := hide b3
  have HN5 := hide (And.intro hn5 hm)
  have g3 : ¬ (n : Int) < 3 := by omega
  clear hown3 b3 hg3 hn5 hm hn
  go_enter Tryd.func18, Tryd.ntmps18
  go_wp2
  go_loopw [3, 15] (fun x z wr => ∃ (k : Nat), z = .int .i64 k ∧ k ≤ 3 ∧ Hid (wr.ownsRow w.heap.size 35 1 x k (u64C (abcP.take k))) ∧ Hid (Below w.heap.size w wr)) (fun _ z _ => 3 - (intOf z).toNat)
  case atStart => exact ⟨0, rfl, by omega, HO3, HB3⟩
  case round =>
    obtain ⟨k, rfl, hk, HO, HB⟩ := hrel
    obtain ⟨hn5, hm⟩ := unhide HN5
    by_cases hlt : k < 3
    · have hlt1 : (k : Int) < (m : Int) := by omega
      have hc5 : ∀ j, j < 5 → wr.cell? ⟨b, off + j, none⟩ = some (.int .i32 (abc.getD j 0)) := by
        intro j hj
        rw [(unhide HB).cell (p := ⟨b, off + j, none⟩) hb, unhide HC j (by exact hj), List.getD_eq_getElem?_getD, List.getElem?_eq_getElem (h := by exact hj)]
        rfl
      obtain ⟨k1, hk1⟩ : ∃ k1, k + 1 = k1 := ⟨_, rfl⟩
      obtain ⟨k2, hk2⟩ : ∃ k2, k + 2 = k2 := ⟨_, rfl⟩
      have c0 := hc5 k (by omega)
      have c1 := hc5 k1 (by omega)
      have c2 := hc5 k2 (by omega)
      have v1 : IntKind.i64.wrap ((k : Int) + 1) = (k1 : Int) := by rw [IntKind.wrap_i64]; omega
      have v2 : IntKind.i64.wrap ((k : Int) + 2) = (k2 : Int) := by rw [IntKind.wrap_i64]; omega
      have l1 : (k1 : Int) < (n : Int) := by omega
      have l2 : (k2 : Int) < (n : Int) := by omega
      have l0 : (k : Int) < (n : Int) := by omega
      have hval := abcV_eq ⟨k, hlt⟩
      simp only [abcV] at hval
      rw [hk1, hk2] at hval
      have hr : ∀ j, 0 ≤ abc.getD j 0 ∧ abc.getD j 0 < 128 := by
        intro j
        rcases (show j = 0 ∨ j = 1 ∨ j = 2 ∨ j = 3 ∨ j = 4 ∨ 5 ≤ j by omega) with rfl | rfl | rfl | rfl | rfl | h <;> first | decide | skip
        rw [List.getD_eq_getElem?_getD, List.getElem?_eq_none (by exact h)]
        decide
      have HP := hide (fun W => part_is (abc.getD k 0) (abc.getD k1 0) (abc.getD k2 0) W (hr _) (hr _) (hr _))
      rw [hval] at HP
      have HS : Hid (u64C (abcP.take k) ++ [Value.int .u64 (abcP.getD k 0)] = u64C (abcP.take (k + 1))) := by
        rcases (show k = 0 ∨ k = 1 ∨ k = 2 by omega) with rfl | rfl | rfl <;> exact hide rfl
      generalize abc.getD k 0 = x at c0 HP
      generalize abc.getD k1 0 = y at c1 HP
      generalize abc.getD k2 0 = z at c2 HP
      generalize abcP.getD k 0 = q at HP HS
      have hown := unhide HO
      have HK3 := hide hlt
      have HK1 := hide hk1
      have hbs := (unhide HB).size
      clear hval hr hc5 hk1 hk2 hn5 hm
      go_wp2
      go_region_law (first
        | (refine step_append_own rfl _ _ 30 rfl w.heap.size 35 i0 (.int .u64 0) 1 8 Tryd.underlying30 hi hz0 hz1 hz2 rfl (by decide) _ k (u64C (abcP.take k)) (by simp [Act.eval]) (hown.alloc _) ⟨wr.heap.size, 0, none⟩ 1 1 [.int .u64 q] (by simp [Act.eval]) rfl (one_cell _ _ _) (by intro u hu; simp at hu; subst hu; rfl) (by unfold maxLen; omega) (by omega) (by simp; omega) ?_
           intro v' w2 hown' hgrow)
        | (go_simp; refine (unhide HP _).mono ?_; rintro e w1 ⟨rfl, rfl⟩; go_simp))
      all_goals
        have hb3 := own_grown (wr := wr.drew) hown hgrow (unhide HB).drew (by simpa using hbs)
        rw [unhide HS] at hown'
        go_simp
        go_wp2
        have hk3 := unhide HK3
        obtain rfl := unhide HK1
        exact ⟨⟨k + 1, rfl, hk3, hide hown', hide hb3⟩, by simp [intOf]; omega⟩
    · have hlt1 : ¬ (k : Int) < (m : Int) := by omega
      have hk3 : k = 3 := by omega
      clear hn5 hm
      subst hk3
      obtain ⟨g, cp, rfl, hg, hgl, hu⟩ := own_urow (l := abcP) (unhide HO) (by decide)
      have HR := hide (rising_is g cp abcP wr hu (by decide) (by decide) (by
        intro j hj
        rcases (show j = 0 ∨ j = 1 by simp [abcP] at hj; omega) with rfl | rfl
        · show (426610717098083 : Int) < 431008765706337; decide
        · show (431008765706337 : Int) < 435406808023138; decide))
      have HU := hide hu
      clear hu
      go_wp2_with fail
      refine (unhide HR).mono ?_
      rintro e w5 ⟨rfl, q, rfl⟩
      go_wp2
      go_ret
      exact ⟨g, cp, rfl, unhide HU, hgl, below_drewN (unhide HB) _⟩
end Go.Proofs.YtpblbeaifolldaaDoor
