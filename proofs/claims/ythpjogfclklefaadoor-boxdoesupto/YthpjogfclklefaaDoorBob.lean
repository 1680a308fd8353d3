/-
  What box.areMails does, over this seat's program.
-/
import Derived.Test.YthpjogfclklefaaDoorBoa
import Derived.Laws.StructEq
import Derived.Deep.RegionHeld3
import Derived.OrdersHeld
set_option linter.unusedVariables false
set_option linter.unusedSimpArgs false
namespace Go.Proofs.YthpjogfclklefaaDoor
open Go.RowKit

theorem held_time : Tryd.prog.stoodInHeld 31 = false := by kernel_rfl
theorem fields_time : Tryd.prog.underlying 31 = some (.struct (Tryd.prog.fieldsOf 31)) := by
  unfold Program.fieldsOf; rw [Tryd.underlying31]
def sameT (a b c a' b' c' : Int) : Bool := decide (a = a') && (decide (b = b') && decide (c = c'))
set_option maxHeartbeats 1000000 in
set_option maxRecDepth 100000 in
theorem eqT (a b c a' b' c' : Int) (W : World) :
    (binOp .eql 31 (.agg #[.int .i64 a, .int .i64 b, .int .i64 c]) (.agg #[.int .i64 a', .int .i64 b', .int .i64 c'])).run Tryd.prog W = .ok (.bool (sameT a b c a' b' c')) W := by
  rw [run_eql_struct, run_equalIn_struct W 9999 _ _ _ fields_time held_time]
  simp only [Program.fieldsOf, Tryd.underlying31]
  have b1 : (a == a') = decide (a = a') := rfl
  have b2 : (b == b') = decide (b = b') := rfl
  have b3 : (c == c') = decide (c = c') := rfl
  unfold sameT
  cases h1 : decide (a = a') <;> cases h2 : decide (b = b') <;> cases h3 : decide (c = c') <;> rw [h1] at b1 <;> rw [h2] at b2 <;> rw [h3] at b3 <;> go_simp
set_option maxHeartbeats 1000000 in
set_option maxRecDepth 100000 in
theorem neqT (a b c a' b' c' : Int) (W : World) :
    (binOp .neq 31 (.agg #[.int .i64 a, .int .i64 b, .int .i64 c]) (.agg #[.int .i64 a', .int .i64 b', .int .i64 c'])).run Tryd.prog W = .ok (.bool (!sameT a b c a' b' c')) W := by
  rw [run_neq_struct, run_equalIn_struct W 9999 _ _ _ fields_time held_time]
  simp only [Program.fieldsOf, Tryd.underlying31]
  have b1 : (a == a') = decide (a = a') := rfl
  have b2 : (b == b') = decide (b = b') := rfl
  have b3 : (c == c') = decide (c = c') := rfl
  unfold sameT
  cases h1 : decide (a = a') <;> cases h2 : decide (b = b') <;> cases h3 : decide (c = c') <;> rw [h1] at b1 <;> rw [h2] at b2 <;> rw [h3] at b3 <;> go_simp
theorem sameT_iff {a b c a' b' c' : Int} (h : sameT a b c a' b' c' = true) : a = a' ∧ b = b' ∧ c = c' := by
  unfold sameT at h
  simpa using h

/-- A time is loaded out of its three cells. -/
theorem load_time (W : World) (b o : Nat) (d s z : Int) (h0 : W.cell? ⟨b, o, none⟩ = some (.int .i64 d)) (h1 : W.cell? ⟨b, o + 1, none⟩ = some (.int .i64 s)) (h2 : W.cell? ⟨b, o + 2, none⟩ = some (.int .i64 z)) :
    (Instr.loadAt 31 (.pointer (some ⟨b, o, none⟩))).run Tryd.prog W = .ok (.agg #[.int .i64 d, .int .i64 s, .int .i64 z]) W := by
  go_simp
/-- What box.areMails tells: numbers from a least one on, below another one, flags, times and sizes as they may be. -/
def mailsOk (next : Nat) : Nat → List Msg → Bool
  | _, [] => true
  | le, m :: r => (decide (le ≤ m.uid ∧ m.uid < next) && (decide (m.fl ≤ 31) && (decide (m.raw.size ≤ 65536) && rightB m.dy m.sc m.zn))) && mailsOk next (m.uid + 1) r

/-- A mail of a row, and the cells that it lies in. -/
theorem RowM.mail {w W : World} {a : Option Addr} {n cap : Nat} {l : List Msg} (h : RowM w (.slice a n cap) l) (hb : Below w.heap.size w W) {k : Nat} (hk : k < l.length) :
    ∃ g off, a = some ⟨g, off, none⟩ ∧ g < W.heap.size ∧ FitM l[k] ∧ W.cell? ⟨g, off + k * 6, none⟩ = some (.int .u32 (l[k].uid : Int)) ∧ W.cell? ⟨g, off + k * 6 + 1, none⟩ = some (.int .u8 (l[k].fl : Int)) ∧ W.cell? ⟨g, off + k * 6 + 2, none⟩ = some (.int .i64 l[k].dy) ∧ W.cell? ⟨g, off + k * 6 + 3, none⟩ = some (.int .i64 l[k].sc) ∧ W.cell? ⟨g, off + k * 6 + 4, none⟩ = some (.int .i64 l[k].zn) ∧ W.cell? ⟨g, off + k * 6 + 5, none⟩ = some (.string l[k].raw) := by
  obtain ⟨g, off, cap', hv, hlt, hc⟩ := RowG.at msC_len (h.below hb) hk
  obtain ⟨_, _, _, _, hfit, _⟩ := h
  injection hv with e1 _ _
  have h0 := hc 0 (by omega)
  have h1 := hc 1 (by omega)
  have h2 := hc 2 (by omega)
  have h3 := hc 3 (by omega)
  have h4 := hc 4 (by omega)
  have h5 := hc 5 (by omega)
  exact ⟨g, off, e1, hlt, hfit _ (List.getElem_mem _), h0, h1, h2, h3, h4, h5⟩
theorem mailsOk_at {next le k : Nat} {l : List Msg} (hk : k < l.length) : mailsOk next le (l.drop k) = ((decide (le ≤ l[k].uid ∧ l[k].uid < next) && (decide (l[k].fl ≤ 31) && (decide (l[k].raw.size ≤ 65536) && rightB l[k].dy l[k].sc l[k].zn))) && mailsOk next (l[k].uid + 1) (l.drop (k + 1))) := by
  rw [List.drop_eq_getElem_cons hk]
  rfl
set_option maxHeartbeats 4000000 in
set_option maxRecDepth 100000 in
theorem areMails_any (v : Value) (l : List Msg) (next : Nat) (w : World) (ht : LTab w) (h : RowM w v l) (hn : next ≤ 18446744073709551615) :
    Calls Tryd.prog 28 #[v, .int .u64 (next : Int)] w fun e w' => e = .returned (.bool (mailsOk next 1 l)) ∧ Below w.heap.size w w' := by
  have HT := hide ht
  have HR := hide h
  obtain ⟨a, cap, rfl, hl, hfit, _⟩ := h
  have HF := hide hfit
  clear ht hfit
  obtain ⟨n, hnn⟩ : ∃ n, l.length = n := ⟨_, rfl⟩
  have HN := hide hnn
  rw [hnn] at HR hl ⊢
  clear hnn
  generalize hres : mailsOk next 1 l = res
  have HRES := hide hres
  clear hres
  go_enter Tryd.func28, Tryd.ntmps28
  go_wp2
  go_loopw [5, 6, 7, 10] (fun y _ _ z wr => ∃ k le : Nat, z = .int .i64 k ∧ y = .int .u64 le ∧ k ≤ n ∧ le ≤ 4294967296 ∧ Hid (mailsOk next le (l.drop k) = res) ∧ Hid (∀ p, l[k - 1]? = some p → 1 ≤ k → rightB p.dy p.sc p.zn = true) ∧ Hid (Below w.heap.size w wr)) (fun _ _ _ z _ => n - (intOf z).toNat)
  case atStart => exact ⟨0, 1, rfl, rfl, Nat.zero_le _, by omega, HRES, hide (fun p _ h => by omega), hide (Below.refl _ _)⟩
  case round =>
    obtain ⟨k, le, rfl, rfl, hk, hle, HE, HPV, HB⟩ := hrel
    by_cases hlt : k < n
    · have hlt1 : (k : Int) < (n : Int) := by omega
      have hkl : k < l.length := by rw [unhide HN]; exact hlt
      obtain ⟨g, off, rfl, hg, hft, c0, c1, c2, c3, c4, c5⟩ := RowM.mail (unhide HR) (unhide HB) hkl
      have hE := unhide HE
      rw [mailsOk_at hkl] at hE
      have HNX : Hid (∀ p, l[(k + 1) - 1]? = some p → p = l[k]) := hide (fun p hp => by
        rw [Nat.add_sub_cancel, List.getElem?_eq_getElem hkl] at hp
        exact (Option.some.inj hp).symm)
      have HPP : Hid (1 ≤ k → ∃ d s z, rightB d s z = true ∧ ∀ W, Below w.heap.size w W → W.cell? ⟨g, off + (k - 1) * 6 + 2, none⟩ = some (.int .i64 d) ∧ W.cell? ⟨g, off + (k - 1) * 6 + 3, none⟩ = some (.int .i64 s) ∧ W.cell? ⟨g, off + (k - 1) * 6 + 4, none⟩ = some (.int .i64 z)) := hide (fun hk1 => by
        have hkl2 : k - 1 < l.length := by omega
        refine ⟨_, _, _, unhide HPV _ (List.getElem?_eq_getElem hkl2) hk1, fun W hW => ?_⟩
        obtain ⟨g', off', e, _, _, _, _, d2, d3, d4, _⟩ := RowM.mail (unhide HR) hW hkl2
        injection e with e
        injection e with e1 e2
        subst e1 e2
        exact ⟨d2, d3, d4⟩)
      obtain ⟨u, hu⟩ : ∃ u, l[k].uid = u := ⟨_, rfl⟩
      obtain ⟨f, hf⟩ : ∃ f, l[k].fl = f := ⟨_, rfl⟩
      obtain ⟨dy, hdy⟩ : ∃ x, l[k].dy = x := ⟨_, rfl⟩
      obtain ⟨sc, hsc⟩ : ∃ x, l[k].sc = x := ⟨_, rfl⟩
      obtain ⟨zn, hzn⟩ : ∃ x, l[k].zn = x := ⟨_, rfl⟩
      obtain ⟨rw_, hrw⟩ : ∃ x, l[k].raw = x := ⟨_, rfl⟩
      unfold FitM at hft
      rw [hu, hf, hdy, hsc, hzn, hrw] at hE hft
      rw [hu] at c0
      rw [hf] at c1
      rw [hdy] at c2
      rw [hsc] at c3
      rw [hzn] at c4
      rw [hrw] at c5
      have HEQ : Hid (∀ p, l[(k + 1) - 1]? = some p → p.dy = dy ∧ p.sc = sc ∧ p.zn = zn) := hide (fun p hp => by rw [unhide HNX p hp]; exact ⟨hdy, hsc, hzn⟩)
      have hu1 : u ≤ 4294967295 := hft.1
      have hf1 : f ≤ 255 := hft.2.1
      have hrz : rw_.size ≤ 16777216 := hft.2.2.2.2.2
      have HEE := hide hE
      clear hu hf hdy hsc hzn hrw hft hE HE
      have hAl : Below wr.heap.size wr (wr.alloc (.cells #[.int .u32 (u : Int), .int .u8 (f : Int), .int .i64 dy, .int .i64 sc, .int .i64 zn, .string rw_] 47)) := (Below.refl _ wr).alloc (Nat.le_refl _) _
      have HAL := hide hAl
      clear hAl
      by_cases hu2 : u < le
      · have d1 : decide ((u : Int) < (le : Int)) = true := decide_eq_true (by omega)
        have hfin : res = false := by
          have h := unhide HEE
          rw [decide_eq_false (by omega : ¬ (le ≤ u ∧ u < next))] at h
          exact h.symm
        have HB2 := hide (belows' (unhide HB) (unhide HAL))
        subst hfin
        clear HEE HPP HPV HNX HEQ
        go_wp2
        go_ret
        exact ⟨rfl, unhide HB2⟩
      · have d1 : decide ((u : Int) < (le : Int)) = false := decide_eq_false (by omega)
        by_cases hu3 : u < next
        · have d2 : decide ((u : Int) ≥ (next : Int)) = false := decide_eq_false (by omega)
          have d2n : decide (next ≤ u) = false := decide_eq_false (by omega)
          have HAF := hide (fun W => areFlags_any f W hf1)
          by_cases hf2 : f ≤ 31
          · rw [decide_eq_true hf2] at HAF
            by_cases hr2 : rw_.size ≤ 65536
            · have d3 : decide ((rw_.size : Int) > 65536) = false := decide_eq_false (by omega)
              have HE2 : Hid ((rightB dy sc zn && mailsOk next (u + 1) (l.drop (k + 1))) = res) := hide (by
                have h := unhide HEE
                rw [decide_eq_true (by omega : le ≤ u ∧ u < next), decide_eq_true hf2, decide_eq_true hr2] at h
                simpa using h)
              have HIT := hide (fun W (h : LTab W) => isTime_any dy sc zn W h)
              have HTW := hide (fun W (hb : Below w.heap.size w W) => (unhide HT).below hb)
              clear HEE HT hr2 hf2 HNX
              go_upto_region 7 with (go_at_call 30; refine (unhide HAF _).mono ?_; rintro e w5 ⟨rfl, h5⟩; subst h5)
              have a2 : (wr.alloc (.cells #[.int .u32 (u : Int), .int .u8 (f : Int), .int .i64 dy, .int .i64 sc, .int .i64 zn, .string rw_] 47)).cell? ⟨wr.heap.size, 2, none⟩ = some (.int .i64 dy) := by rw [World.cell?_alloc_at _ _ _ _ (by simp)]; rfl
              have a3 : (wr.alloc (.cells #[.int .u32 (u : Int), .int .u8 (f : Int), .int .i64 dy, .int .i64 sc, .int .i64 zn, .string rw_] 47)).cell? ⟨wr.heap.size, 3, none⟩ = some (.int .i64 sc) := by rw [World.cell?_alloc_at _ _ _ _ (by simp)]; rfl
              have a4 : (wr.alloc (.cells #[.int .u32 (u : Int), .int .u8 (f : Int), .int .i64 dy, .int .i64 sc, .int .i64 zn, .string rw_] 47)).cell? ⟨wr.heap.size, 4, none⟩ = some (.int .i64 zn) := by rw [World.cell?_alloc_at _ _ _ _ (by simp)]; rfl
              have a0 : (wr.alloc (.cells #[.int .u32 (u : Int), .int .u8 (f : Int), .int .i64 dy, .int .i64 sc, .int .i64 zn, .string rw_] 47)).cell? ⟨wr.heap.size, 0, none⟩ = some (.int .u32 (u : Int)) := by rw [World.cell?_alloc_at _ _ _ _ (by simp)]; rfl
              have hB7 : wr.heap.size < (wr.alloc (.cells #[.int .u32 (u : Int), .int .u8 (f : Int), .int .i64 dy, .int .i64 sc, .int .i64 zn, .string rw_] 47)).heap.size := by simp
              have HB2 := hide (belows' (unhide HB) (unhide HAL))
              generalize (wr.alloc (.cells #[.int .u32 (u : Int), .int .u8 (f : Int), .int .i64 dy, .int .i64 sc, .int .i64 zn, .string rw_] 47)) = W2 at a0 a2 a3 a4 hB7 HB2 HAL ⊢
              generalize wr.heap.size = B7 at a0 a2 a3 a4 hB7 ⊢
              have HX : Hid (∀ W, Below W2.heap.size W2 W → W.cell? ⟨B7, 2, none⟩ = some (.int .i64 dy) ∧ W.cell? ⟨B7, 3, none⟩ = some (.int .i64 sc) ∧ W.cell? ⟨B7, 4, none⟩ = some (.int .i64 zn)) := hide (fun W hb => ⟨(hb.cell (p := ⟨B7, 2, none⟩) hB7).trans a2, (hb.cell (p := ⟨B7, 3, none⟩) hB7).trans a3, (hb.cell (p := ⟨B7, 4, none⟩) hB7).trans a4⟩)
              clear c0 c1 c2 c3 c4 c5 HAF HB HAL
              by_cases hk0 : k = 0
              · have hkb : ((k : Int) == 0) = true := by rw [hk0]; rfl
                clear HPP HPV hk0
                cases hr : rightB dy sc zn with
                | false =>
                  rw [hr] at HIT HE2
                  have hfin : res = false := (unhide HE2).symm
                  subst hfin
                  clear HE2 HEQ hr
                  refine wp_region_held_drew (S := (fun w' => Below W2.heap.size W2 w')) (by kernel_rfl) ?_ (fun hHeld => ?_)
                  · exact ⟨rfl, rfl, rfl, Nat.le_refl _, fun _ _ => rfl⟩
                  refine wpAnyH_take (i := 0) (v := .int .i64 (k : Int)) rfl (by kernel_rfl) (by kernel_rfl) (by kernel_rfl) (fun _ _ _ h => h) (Or.inl ⟨by kernel_rfl, fun wS hSw => ?_⟩) (by assumption) ?_
                  · (try dsimp only at hSw); go_simp
                  (try simp only [Act.put, List.setIfInBounds_toArray, List.set_cons_zero, List.set_cons_succ])
                  refine wpAnyH_take (i := 1) (v := .bool true) rfl (by kernel_rfl) (by kernel_rfl) (by kernel_rfl) (fun _ _ _ h => h) (Or.inl ⟨by kernel_rfl, fun wS hSw => ?_⟩) (by assumption) ?_
                  · (try dsimp only at hSw); go_simp
                  (try simp only [Act.put, List.setIfInBounds_toArray, List.set_cons_zero, List.set_cons_succ])
                  refine wpAnyH_take (i := 2) (v := .bool true) rfl (by kernel_rfl) (by kernel_rfl) (by kernel_rfl) (fun _ _ _ h => h) (Or.inl ⟨by kernel_rfl, fun wS hSw => ?_⟩) (by assumption) ?_
                  · (try dsimp only at hSw); go_simp
                  (try simp only [Act.put, List.setIfInBounds_toArray, List.set_cons_zero, List.set_cons_succ])
                  refine wpAnyH_take (i := 3) (v := undef) rfl (by kernel_rfl) (by kernel_rfl) (by kernel_rfl) (fun _ _ _ h => h) (Or.inr ⟨by kernel_rfl, rfl⟩) (by assumption) ?_
                  (try simp only [Act.put, List.setIfInBounds_toArray, List.set_cons_zero, List.set_cons_succ])
                  refine wpAnyH_take (i := 4) (v := undef) rfl (by kernel_rfl) (by kernel_rfl) (by kernel_rfl) (fun _ _ _ h => h) (Or.inr ⟨by kernel_rfl, rfl⟩) (by assumption) ?_
                  (try simp only [Act.put, List.setIfInBounds_toArray, List.set_cons_zero, List.set_cons_succ])
                  refine wpAnyH_take (i := 5) (v := undef) rfl (by kernel_rfl) (by kernel_rfl) (by kernel_rfl) (fun _ _ _ h => h) (Or.inr ⟨by kernel_rfl, rfl⟩) (by assumption) ?_
                  (try simp only [Act.put, List.setIfInBounds_toArray, List.set_cons_zero, List.set_cons_succ])
                  refine wpAnyH_take (i := 6) (v := undef) rfl (by kernel_rfl) (by kernel_rfl) (by kernel_rfl) (fun _ _ _ h => h) (Or.inr ⟨by kernel_rfl, rfl⟩) (by assumption) ?_
                  (try simp only [Act.put, List.setIfInBounds_toArray, List.set_cons_zero, List.set_cons_succ])
                  refine wpAnyH_take (i := 7) (v := undef) rfl (by kernel_rfl) (by kernel_rfl) (by kernel_rfl) (fun _ _ _ h => h) (Or.inr ⟨by kernel_rfl, rfl⟩) (by assumption) ?_
                  (try simp only [Act.put, List.setIfInBounds_toArray, List.set_cons_zero, List.set_cons_succ])
                  refine wpAnyH_take (i := 8) (v := undef) rfl (by kernel_rfl) (by kernel_rfl) (by kernel_rfl) (fun _ _ _ h => h) (Or.inr ⟨by kernel_rfl, rfl⟩) (by assumption) ?_
                  (try simp only [Act.put, List.setIfInBounds_toArray, List.set_cons_zero, List.set_cons_succ])
                  refine wpAnyH_take (i := 9) (v := undef) rfl (by kernel_rfl) (by kernel_rfl) (by kernel_rfl) (fun _ _ _ h => h) (Or.inr ⟨by kernel_rfl, rfl⟩) (by assumption) ?_
                  (try simp only [Act.put, List.setIfInBounds_toArray, List.set_cons_zero, List.set_cons_succ])
                  refine wpAnyH_take (i := 10) (v := undef) rfl (by kernel_rfl) (by kernel_rfl) (by kernel_rfl) (fun _ _ _ h => h) (Or.inr ⟨by kernel_rfl, rfl⟩) (by assumption) ?_
                  (try simp only [Act.put, List.setIfInBounds_toArray, List.set_cons_zero, List.set_cons_succ])
                  refine wpAnyH_take (i := 11) (v := undef) rfl (by kernel_rfl) (by kernel_rfl) (by kernel_rfl) (fun _ _ _ h => h) (Or.inr ⟨by kernel_rfl, rfl⟩) (by assumption) ?_
                  (try simp only [Act.put, List.setIfInBounds_toArray, List.set_cons_zero, List.set_cons_succ])
                  refine wpAnyH_take (i := 12) (v := .bool true) rfl (by kernel_rfl) (by kernel_rfl) (by kernel_rfl) (fun _ _ _ h => h) (Or.inl ⟨by kernel_rfl, fun wS hSw => ?_⟩) (by assumption) ?_
                  · (try dsimp only at hSw); go_simp
                  (try simp only [Act.put, List.setIfInBounds_toArray, List.set_cons_zero, List.set_cons_succ])
                  refine wpAnyH_take (i := 13) (v := .bool true) rfl (by kernel_rfl) (by kernel_rfl) (by kernel_rfl) (fun _ _ _ h => h) (Or.inl ⟨by kernel_rfl, fun wS hSw => ?_⟩) (by assumption) ?_
                  · (try dsimp only at hSw); go_simp
                  (try simp only [Act.put, List.setIfInBounds_toArray, List.set_cons_zero, List.set_cons_succ])
                  refine wpAnyH_take (i := 14) (v := .pointer (some ⟨B7, 2, none⟩)) rfl (by kernel_rfl) (by kernel_rfl) (by kernel_rfl) (fun _ _ _ h => h) (Or.inl ⟨by kernel_rfl, fun wS hSw => ?_⟩) (by assumption) ?_
                  · (try dsimp only at hSw); go_simp
                  (try simp only [Act.put, List.setIfInBounds_toArray, List.set_cons_zero, List.set_cons_succ])
                  refine wpAnyH_take (i := 15) (v := .agg #[.int .i64 dy, .int .i64 sc, .int .i64 zn]) rfl (by kernel_rfl) (by kernel_rfl) (by kernel_rfl) (fun _ _ _ h => h) (Or.inl ⟨by kernel_rfl, fun wS hSw => ?_⟩) (by assumption) ?_
                  · (try dsimp only at hSw); have hx := unhide HX wS hSw; clear hSw; go_simp
                  (try simp only [Act.put, List.setIfInBounds_toArray, List.set_cons_zero, List.set_cons_succ])
                  refine wpAnyH_ready (rs := [16]) (by kernel_rfl) (by simp) ?_
                  refine AllReadyH.cons rfl (fun K hK => ?_) AllReadyH.nil
                  have hB : Below W2.heap.size W2 _ := hHeld
                  go_simp
                  refine (unhide HIT _ (unhide HTW _ (belows' (unhide HB2) hB))).mono ?_
                  rintro e w6 ⟨rfl, b6⟩
                  have hw6 : Below W2.heap.size W2 w6 := belows' hB b6
                  clear b6 hB
                  go_wp2_with fail
                  refine hK.out _ _ ?_ (fun hHeld => ?_)
                  · exact hw6
                  clear hK K
                  (try simp only [Act.put, List.setIfInBounds_toArray, List.set_cons_zero, List.set_cons_succ])
                  refine wpAnyH_take (i := 17) (v := .bool true) rfl (by kernel_rfl) (by kernel_rfl) (by kernel_rfl) (fun _ _ _ h => h) (Or.inl ⟨by kernel_rfl, fun wS hSw => ?_⟩) (by assumption) ?_
                  · (try dsimp only at hSw); go_simp
                  (try simp only [Act.put, List.setIfInBounds_toArray, List.set_cons_zero, List.set_cons_succ])
                  refine wpAnyH_take (i := 18) (v := .bool true) rfl (by kernel_rfl) (by kernel_rfl) (by kernel_rfl) (fun _ _ _ h => h) (Or.inl ⟨by kernel_rfl, fun wS hSw => ?_⟩) (by assumption) ?_
                  · (try dsimp only at hSw); go_simp
                  (try simp only [Act.put, List.setIfInBounds_toArray, List.set_cons_zero, List.set_cons_succ])
                  refine wpAnyH_done (by kernel_rfl) ?_ _
                  have B9 := hide (belows' (unhide HB2) hHeld)
                  clear hHeld
                  go_wp2
                  go_ret
                  exact ⟨rfl, unhide B9⟩
                | true =>
                  rw [hr] at HIT HE2
                  have HE3 : Hid (mailsOk next (u + 1) (l.drop (k + 1)) = res) := hide (by simpa using unhide HE2)
                  have HPN : Hid (∀ p, l[(k + 1) - 1]? = some p → 1 ≤ k + 1 → rightB p.dy p.sc p.zn = true) := hide (fun p hp _ => by obtain ⟨q1, q2, q3⟩ := unhide HEQ p hp; rw [q1, q2, q3]; exact hr)
                  clear HE2 HEQ hr
                  refine wp_region_held_drew (S := (fun w' => Below W2.heap.size W2 w')) (by kernel_rfl) ?_ (fun hHeld => ?_)
                  · exact ⟨rfl, rfl, rfl, Nat.le_refl _, fun _ _ => rfl⟩
                  refine wpAnyH_take (i := 0) (v := .int .i64 (k : Int)) rfl (by kernel_rfl) (by kernel_rfl) (by kernel_rfl) (fun _ _ _ h => h) (Or.inl ⟨by kernel_rfl, fun wS hSw => ?_⟩) (by assumption) ?_
                  · (try dsimp only at hSw); go_simp
                  (try simp only [Act.put, List.setIfInBounds_toArray, List.set_cons_zero, List.set_cons_succ])
                  refine wpAnyH_take (i := 1) (v := .bool true) rfl (by kernel_rfl) (by kernel_rfl) (by kernel_rfl) (fun _ _ _ h => h) (Or.inl ⟨by kernel_rfl, fun wS hSw => ?_⟩) (by assumption) ?_
                  · (try dsimp only at hSw); go_simp
                  (try simp only [Act.put, List.setIfInBounds_toArray, List.set_cons_zero, List.set_cons_succ])
                  refine wpAnyH_take (i := 2) (v := .bool true) rfl (by kernel_rfl) (by kernel_rfl) (by kernel_rfl) (fun _ _ _ h => h) (Or.inl ⟨by kernel_rfl, fun wS hSw => ?_⟩) (by assumption) ?_
                  · (try dsimp only at hSw); go_simp
                  (try simp only [Act.put, List.setIfInBounds_toArray, List.set_cons_zero, List.set_cons_succ])
                  refine wpAnyH_take (i := 3) (v := undef) rfl (by kernel_rfl) (by kernel_rfl) (by kernel_rfl) (fun _ _ _ h => h) (Or.inr ⟨by kernel_rfl, rfl⟩) (by assumption) ?_
                  (try simp only [Act.put, List.setIfInBounds_toArray, List.set_cons_zero, List.set_cons_succ])
                  refine wpAnyH_take (i := 4) (v := undef) rfl (by kernel_rfl) (by kernel_rfl) (by kernel_rfl) (fun _ _ _ h => h) (Or.inr ⟨by kernel_rfl, rfl⟩) (by assumption) ?_
                  (try simp only [Act.put, List.setIfInBounds_toArray, List.set_cons_zero, List.set_cons_succ])
                  refine wpAnyH_take (i := 5) (v := undef) rfl (by kernel_rfl) (by kernel_rfl) (by kernel_rfl) (fun _ _ _ h => h) (Or.inr ⟨by kernel_rfl, rfl⟩) (by assumption) ?_
                  (try simp only [Act.put, List.setIfInBounds_toArray, List.set_cons_zero, List.set_cons_succ])
                  refine wpAnyH_take (i := 6) (v := undef) rfl (by kernel_rfl) (by kernel_rfl) (by kernel_rfl) (fun _ _ _ h => h) (Or.inr ⟨by kernel_rfl, rfl⟩) (by assumption) ?_
                  (try simp only [Act.put, List.setIfInBounds_toArray, List.set_cons_zero, List.set_cons_succ])
                  refine wpAnyH_take (i := 7) (v := undef) rfl (by kernel_rfl) (by kernel_rfl) (by kernel_rfl) (fun _ _ _ h => h) (Or.inr ⟨by kernel_rfl, rfl⟩) (by assumption) ?_
                  (try simp only [Act.put, List.setIfInBounds_toArray, List.set_cons_zero, List.set_cons_succ])
                  refine wpAnyH_take (i := 8) (v := undef) rfl (by kernel_rfl) (by kernel_rfl) (by kernel_rfl) (fun _ _ _ h => h) (Or.inr ⟨by kernel_rfl, rfl⟩) (by assumption) ?_
                  (try simp only [Act.put, List.setIfInBounds_toArray, List.set_cons_zero, List.set_cons_succ])
                  refine wpAnyH_take (i := 9) (v := undef) rfl (by kernel_rfl) (by kernel_rfl) (by kernel_rfl) (fun _ _ _ h => h) (Or.inr ⟨by kernel_rfl, rfl⟩) (by assumption) ?_
                  (try simp only [Act.put, List.setIfInBounds_toArray, List.set_cons_zero, List.set_cons_succ])
                  refine wpAnyH_take (i := 10) (v := undef) rfl (by kernel_rfl) (by kernel_rfl) (by kernel_rfl) (fun _ _ _ h => h) (Or.inr ⟨by kernel_rfl, rfl⟩) (by assumption) ?_
                  (try simp only [Act.put, List.setIfInBounds_toArray, List.set_cons_zero, List.set_cons_succ])
                  refine wpAnyH_take (i := 11) (v := undef) rfl (by kernel_rfl) (by kernel_rfl) (by kernel_rfl) (fun _ _ _ h => h) (Or.inr ⟨by kernel_rfl, rfl⟩) (by assumption) ?_
                  (try simp only [Act.put, List.setIfInBounds_toArray, List.set_cons_zero, List.set_cons_succ])
                  refine wpAnyH_take (i := 12) (v := .bool true) rfl (by kernel_rfl) (by kernel_rfl) (by kernel_rfl) (fun _ _ _ h => h) (Or.inl ⟨by kernel_rfl, fun wS hSw => ?_⟩) (by assumption) ?_
                  · (try dsimp only at hSw); go_simp
                  (try simp only [Act.put, List.setIfInBounds_toArray, List.set_cons_zero, List.set_cons_succ])
                  refine wpAnyH_take (i := 13) (v := .bool true) rfl (by kernel_rfl) (by kernel_rfl) (by kernel_rfl) (fun _ _ _ h => h) (Or.inl ⟨by kernel_rfl, fun wS hSw => ?_⟩) (by assumption) ?_
                  · (try dsimp only at hSw); go_simp
                  (try simp only [Act.put, List.setIfInBounds_toArray, List.set_cons_zero, List.set_cons_succ])
                  refine wpAnyH_take (i := 14) (v := .pointer (some ⟨B7, 2, none⟩)) rfl (by kernel_rfl) (by kernel_rfl) (by kernel_rfl) (fun _ _ _ h => h) (Or.inl ⟨by kernel_rfl, fun wS hSw => ?_⟩) (by assumption) ?_
                  · (try dsimp only at hSw); go_simp
                  (try simp only [Act.put, List.setIfInBounds_toArray, List.set_cons_zero, List.set_cons_succ])
                  refine wpAnyH_take (i := 15) (v := .agg #[.int .i64 dy, .int .i64 sc, .int .i64 zn]) rfl (by kernel_rfl) (by kernel_rfl) (by kernel_rfl) (fun _ _ _ h => h) (Or.inl ⟨by kernel_rfl, fun wS hSw => ?_⟩) (by assumption) ?_
                  · (try dsimp only at hSw); have hx := unhide HX wS hSw; clear hSw; go_simp
                  (try simp only [Act.put, List.setIfInBounds_toArray, List.set_cons_zero, List.set_cons_succ])
                  refine wpAnyH_ready (rs := [16]) (by kernel_rfl) (by simp) ?_
                  refine AllReadyH.cons rfl (fun K hK => ?_) AllReadyH.nil
                  have hB : Below W2.heap.size W2 _ := hHeld
                  go_simp
                  refine (unhide HIT _ (unhide HTW _ (belows' (unhide HB2) hB))).mono ?_
                  rintro e w6 ⟨rfl, b6⟩
                  have hw6 : Below W2.heap.size W2 w6 := belows' hB b6
                  clear b6 hB
                  go_wp2_with fail
                  refine hK.out _ _ ?_ (fun hHeld => ?_)
                  · exact hw6
                  clear hK K
                  (try simp only [Act.put, List.setIfInBounds_toArray, List.set_cons_zero, List.set_cons_succ])
                  refine wpAnyH_take (i := 17) (v := .bool false) rfl (by kernel_rfl) (by kernel_rfl) (by kernel_rfl) (fun _ _ _ h => h) (Or.inl ⟨by kernel_rfl, fun wS hSw => ?_⟩) (by assumption) ?_
                  · (try dsimp only at hSw); go_simp
                  (try simp only [Act.put, List.setIfInBounds_toArray, List.set_cons_zero, List.set_cons_succ])
                  refine wpAnyH_take (i := 18) (v := .bool false) rfl (by kernel_rfl) (by kernel_rfl) (by kernel_rfl) (fun _ _ _ h => h) (Or.inl ⟨by kernel_rfl, fun wS hSw => ?_⟩) (by assumption) ?_
                  · (try dsimp only at hSw); go_simp
                  (try simp only [Act.put, List.setIfInBounds_toArray, List.set_cons_zero, List.set_cons_succ])
                  refine wpAnyH_done (by kernel_rfl) ?_ _
                  have B9 := hide (belows' (unhide HB2) hHeld)
                  have z0 := (hHeld.cell (p := ⟨B7, 0, none⟩) hB7).trans a0
                  clear hHeld a0 a2 a3 a4
                  go_wp2
                  exact ⟨⟨k + 1, u + 1, by go_num, by go_num, by omega, by omega, HE3, HPN, B9⟩, by simp [intOf]; omega⟩
              · have hkb : ((k : Int) == 0) = false := by simp; omega
                have hk1 : 1 ≤ k := by omega
                have hk2 : (1 : Int) ≤ (k : Int) := by omega
                obtain ⟨pd, ps, pz, hpr, hpc⟩ := unhide HPP hk1
                have HY : Hid (∀ W, Below W2.heap.size W2 W → W.cell? ⟨g, off + (k - 1) * 6 + 2, none⟩ = some (.int .i64 pd) ∧ W.cell? ⟨g, off + (k - 1) * 6 + 3, none⟩ = some (.int .i64 ps) ∧ W.cell? ⟨g, off + (k - 1) * 6 + 4, none⟩ = some (.int .i64 pz)) := hide (fun W hb => hpc W (belows' (unhide HB2) hb))
                have hnq := fun W => neqT dy sc zn pd ps pz W
                have HSM : Hid (sameT dy sc zn pd ps pz = true → rightB dy sc zn = true) := hide (fun h => by obtain ⟨q1, q2, q3⟩ := sameT_iff h; rw [q1, q2, q3]; exact hpr)
                clear HPP HPV hpr hpc hk0
                generalize sameT dy sc zn pd ps pz = sm at hnq HSM
                cases sm with
                | true =>
                  have hr := unhide HSM rfl
                  rw [hr] at HE2
                  have HE3 : Hid (mailsOk next (u + 1) (l.drop (k + 1)) = res) := hide (by simpa using unhide HE2)
                  have HPN : Hid (∀ p, l[(k + 1) - 1]? = some p → 1 ≤ k + 1 → rightB p.dy p.sc p.zn = true) := hide (fun p hp _ => by obtain ⟨q1, q2, q3⟩ := unhide HEQ p hp; rw [q1, q2, q3]; exact hr)
                  clear HE2 HEQ hr HSM
                  obtain ⟨x2, x3, x4⟩ := unhide HX W2 (Below.refl _ _)
                  obtain ⟨y2, y3, y4⟩ := unhide HY W2 (Below.refl _ _)
                  clear a2 a3 a4 HX HY
                  --Q--
                  go_quiet (fail)
                  go_wp2
                  exact ⟨⟨k + 1, u + 1, by go_num, by go_num, by omega, by omega, HE3, HPN, hide (below_drewN (unhide HB2) _)⟩, by simp [intOf]; omega⟩
                | false =>
                  clear HSM
                  cases hr : rightB dy sc zn with
                  | false =>
                    rw [hr] at HIT HE2
                    have hfin : res = false := (unhide HE2).symm
                    subst hfin
                    clear HE2 HEQ hr
                    refine wp_region_held_drew (S := (fun w' => Below W2.heap.size W2 w')) (by kernel_rfl) ?_ (fun hHeld => ?_)
                    · exact ⟨rfl, rfl, rfl, Nat.le_refl _, fun _ _ => rfl⟩
                    refine wpAnyH_take (i := 0) (v := .int .i64 (k : Int)) rfl (by kernel_rfl) (by kernel_rfl) (by kernel_rfl) (fun _ _ _ h => h) (Or.inl ⟨by kernel_rfl, fun wS hSw => ?_⟩) (by assumption) ?_
                    · (try dsimp only at hSw); go_simp
                    (try simp only [Act.put, List.setIfInBounds_toArray, List.set_cons_zero, List.set_cons_succ])
                    refine wpAnyH_take (i := 1) (v := .bool false) rfl (by kernel_rfl) (by kernel_rfl) (by kernel_rfl) (fun _ _ _ h => h) (Or.inl ⟨by kernel_rfl, fun wS hSw => ?_⟩) (by assumption) ?_
                    · (try dsimp only at hSw); go_simp
                    (try simp only [Act.put, List.setIfInBounds_toArray, List.set_cons_zero, List.set_cons_succ])
                    refine wpAnyH_take (i := 2) (v := .bool false) rfl (by kernel_rfl) (by kernel_rfl) (by kernel_rfl) (fun _ _ _ h => h) (Or.inl ⟨by kernel_rfl, fun wS hSw => ?_⟩) (by assumption) ?_
                    · (try dsimp only at hSw); go_simp
                    (try simp only [Act.put, List.setIfInBounds_toArray, List.set_cons_zero, List.set_cons_succ])
                    refine wpAnyH_take (i := 3) (v := .pointer (some ⟨B7, 2, none⟩)) rfl (by kernel_rfl) (by kernel_rfl) (by kernel_rfl) (fun _ _ _ h => h) (Or.inl ⟨by kernel_rfl, fun wS hSw => ?_⟩) (by assumption) ?_
                    · (try dsimp only at hSw); go_simp
                    (try simp only [Act.put, List.setIfInBounds_toArray, List.set_cons_zero, List.set_cons_succ])
                    refine wpAnyH_take (i := 4) (v := .agg #[.int .i64 dy, .int .i64 sc, .int .i64 zn]) rfl (by kernel_rfl) (by kernel_rfl) (by kernel_rfl) (fun _ _ _ h => h) (Or.inl ⟨by kernel_rfl, fun wS hSw => ?_⟩) (by assumption) ?_
                    · (try dsimp only at hSw); have hx := unhide HX wS hSw; clear hSw; go_simp
                    (try simp only [Act.put, List.setIfInBounds_toArray, List.set_cons_zero, List.set_cons_succ])
                    refine wpAnyH_take (i := 5) (v := .slice (some ⟨g, off, none⟩) n cap) rfl (by kernel_rfl) (by kernel_rfl) (by kernel_rfl) (fun _ _ _ h => h) (Or.inl ⟨by kernel_rfl, fun wS hSw => ?_⟩) (by assumption) ?_
                    · (try dsimp only at hSw); go_simp
                    (try simp only [Act.put, List.setIfInBounds_toArray, List.set_cons_zero, List.set_cons_succ])
                    refine wpAnyH_take (i := 6) (v := .int .i64 (k : Int)) rfl (by kernel_rfl) (by kernel_rfl) (by kernel_rfl) (fun _ _ _ h => h) (Or.inl ⟨by kernel_rfl, fun wS hSw => ?_⟩) (by assumption) ?_
                    · (try dsimp only at hSw); go_simp
                    (try simp only [Act.put, List.setIfInBounds_toArray, List.set_cons_zero, List.set_cons_succ])
                    refine wpAnyH_take (i := 7) (v := .int .i64 ((k : Int) - 1)) rfl (by kernel_rfl) (by kernel_rfl) (by kernel_rfl) (fun _ _ _ h => h) (Or.inl ⟨by kernel_rfl, fun wS hSw => ?_⟩) (by assumption) ?_
                    · (try dsimp only at hSw); go_simp; (rw [IntKind.wrap_i64]; omega)
                    (try simp only [Act.put, List.setIfInBounds_toArray, List.set_cons_zero, List.set_cons_succ])
                    refine wpAnyH_take (i := 8) (v := .pointer (some ⟨g, off + (k - 1) * 6, none⟩)) rfl (by kernel_rfl) (by kernel_rfl) (by kernel_rfl) (fun _ _ _ h => h) (Or.inl ⟨by kernel_rfl, fun wS hSw => ?_⟩) (by assumption) ?_
                    · (try dsimp only at hSw); go_simp; (intro hx; exfalso; omega)
                    (try simp only [Act.put, List.setIfInBounds_toArray, List.set_cons_zero, List.set_cons_succ])
                    refine wpAnyH_take (i := 9) (v := .pointer (some ⟨g, off + (k - 1) * 6 + 2, none⟩)) rfl (by kernel_rfl) (by kernel_rfl) (by kernel_rfl) (fun _ _ _ h => h) (Or.inl ⟨by kernel_rfl, fun wS hSw => ?_⟩) (by assumption) ?_
                    · (try dsimp only at hSw); go_simp
                    (try simp only [Act.put, List.setIfInBounds_toArray, List.set_cons_zero, List.set_cons_succ])
                    refine wpAnyH_take (i := 10) (v := .agg #[.int .i64 pd, .int .i64 ps, .int .i64 pz]) rfl (by kernel_rfl) (by kernel_rfl) (by kernel_rfl) (fun _ _ _ h => h) (Or.inl ⟨by kernel_rfl, fun wS hSw => ?_⟩) (by assumption) ?_
                    · (try dsimp only at hSw); have hx := unhide HY wS hSw; clear hSw; go_simp
                    (try simp only [Act.put, List.setIfInBounds_toArray, List.set_cons_zero, List.set_cons_succ])
                    refine wpAnyH_take (i := 11) (v := .bool true) rfl (by kernel_rfl) (by kernel_rfl) (by kernel_rfl) (fun _ _ _ h => h) (Or.inl ⟨by kernel_rfl, fun wS hSw => ?_⟩) (by assumption) ?_
                    · (try dsimp only at hSw); go_simp
                    (try simp only [Act.put, List.setIfInBounds_toArray, List.set_cons_zero, List.set_cons_succ])
                    refine wpAnyH_take (i := 12) (v := .bool true) rfl (by kernel_rfl) (by kernel_rfl) (by kernel_rfl) (fun _ _ _ h => h) (Or.inl ⟨by kernel_rfl, fun wS hSw => ?_⟩) (by assumption) ?_
                    · (try dsimp only at hSw); go_simp
                    (try simp only [Act.put, List.setIfInBounds_toArray, List.set_cons_zero, List.set_cons_succ])
                    refine wpAnyH_take (i := 13) (v := .bool true) rfl (by kernel_rfl) (by kernel_rfl) (by kernel_rfl) (fun _ _ _ h => h) (Or.inl ⟨by kernel_rfl, fun wS hSw => ?_⟩) (by assumption) ?_
                    · (try dsimp only at hSw); go_simp
                    (try simp only [Act.put, List.setIfInBounds_toArray, List.set_cons_zero, List.set_cons_succ])
                    refine wpAnyH_take (i := 14) (v := .pointer (some ⟨B7, 2, none⟩)) rfl (by kernel_rfl) (by kernel_rfl) (by kernel_rfl) (fun _ _ _ h => h) (Or.inl ⟨by kernel_rfl, fun wS hSw => ?_⟩) (by assumption) ?_
                    · (try dsimp only at hSw); go_simp
                    (try simp only [Act.put, List.setIfInBounds_toArray, List.set_cons_zero, List.set_cons_succ])
                    refine wpAnyH_take (i := 15) (v := .agg #[.int .i64 dy, .int .i64 sc, .int .i64 zn]) rfl (by kernel_rfl) (by kernel_rfl) (by kernel_rfl) (fun _ _ _ h => h) (Or.inl ⟨by kernel_rfl, fun wS hSw => ?_⟩) (by assumption) ?_
                    · (try dsimp only at hSw); have hx := unhide HX wS hSw; clear hSw; go_simp
                    (try simp only [Act.put, List.setIfInBounds_toArray, List.set_cons_zero, List.set_cons_succ])
                    refine wpAnyH_ready (rs := [16]) (by kernel_rfl) (by simp) ?_
                    refine AllReadyH.cons rfl (fun K hK => ?_) AllReadyH.nil
                    have hB : Below W2.heap.size W2 _ := hHeld
                    go_simp
                    refine (unhide HIT _ (unhide HTW _ (belows' (unhide HB2) hB))).mono ?_
                    rintro e w6 ⟨rfl, b6⟩
                    have hw6 : Below W2.heap.size W2 w6 := belows' hB b6
                    clear b6 hB
                    go_wp2_with fail
                    refine hK.out _ _ ?_ (fun hHeld => ?_)
                    · exact hw6
                    clear hK K
                    (try simp only [Act.put, List.setIfInBounds_toArray, List.set_cons_zero, List.set_cons_succ])
                    refine wpAnyH_take (i := 17) (v := .bool true) rfl (by kernel_rfl) (by kernel_rfl) (by kernel_rfl) (fun _ _ _ h => h) (Or.inl ⟨by kernel_rfl, fun wS hSw => ?_⟩) (by assumption) ?_
                    · (try dsimp only at hSw); go_simp
                    (try simp only [Act.put, List.setIfInBounds_toArray, List.set_cons_zero, List.set_cons_succ])
                    refine wpAnyH_take (i := 18) (v := .bool true) rfl (by kernel_rfl) (by kernel_rfl) (by kernel_rfl) (fun _ _ _ h => h) (Or.inl ⟨by kernel_rfl, fun wS hSw => ?_⟩) (by assumption) ?_
                    · (try dsimp only at hSw); go_simp
                    (try simp only [Act.put, List.setIfInBounds_toArray, List.set_cons_zero, List.set_cons_succ])
                    refine wpAnyH_done (by kernel_rfl) ?_ _
                    have B9 := hide (belows' (unhide HB2) hHeld)
                    clear hHeld
                    go_wp2
                    go_ret
                    exact ⟨rfl, unhide B9⟩
                  | true =>
                    rw [hr] at HIT HE2
                    have HE3 : Hid (mailsOk next (u + 1) (l.drop (k + 1)) = res) := hide (by simpa using unhide HE2)
                    have HPN : Hid (∀ p, l[(k + 1) - 1]? = some p → 1 ≤ k + 1 → rightB p.dy p.sc p.zn = true) := hide (fun p hp _ => by obtain ⟨q1, q2, q3⟩ := unhide HEQ p hp; rw [q1, q2, q3]; exact hr)
                    clear HE2 HEQ hr
                    refine wp_region_held_drew (S := (fun w' => Below W2.heap.size W2 w')) (by kernel_rfl) ?_ (fun hHeld => ?_)
                    · exact ⟨rfl, rfl, rfl, Nat.le_refl _, fun _ _ => rfl⟩
                    refine wpAnyH_take (i := 0) (v := .int .i64 (k : Int)) rfl (by kernel_rfl) (by kernel_rfl) (by kernel_rfl) (fun _ _ _ h => h) (Or.inl ⟨by kernel_rfl, fun wS hSw => ?_⟩) (by assumption) ?_
                    · (try dsimp only at hSw); go_simp
                    (try simp only [Act.put, List.setIfInBounds_toArray, List.set_cons_zero, List.set_cons_succ])
                    refine wpAnyH_take (i := 1) (v := .bool false) rfl (by kernel_rfl) (by kernel_rfl) (by kernel_rfl) (fun _ _ _ h => h) (Or.inl ⟨by kernel_rfl, fun wS hSw => ?_⟩) (by assumption) ?_
                    · (try dsimp only at hSw); go_simp
                    (try simp only [Act.put, List.setIfInBounds_toArray, List.set_cons_zero, List.set_cons_succ])
                    refine wpAnyH_take (i := 2) (v := .bool false) rfl (by kernel_rfl) (by kernel_rfl) (by kernel_rfl) (fun _ _ _ h => h) (Or.inl ⟨by kernel_rfl, fun wS hSw => ?_⟩) (by assumption) ?_
                    · (try dsimp only at hSw); go_simp
                    (try simp only [Act.put, List.setIfInBounds_toArray, List.set_cons_zero, List.set_cons_succ])
                    refine wpAnyH_take (i := 3) (v := .pointer (some ⟨B7, 2, none⟩)) rfl (by kernel_rfl) (by kernel_rfl) (by kernel_rfl) (fun _ _ _ h => h) (Or.inl ⟨by kernel_rfl, fun wS hSw => ?_⟩) (by assumption) ?_
                    · (try dsimp only at hSw); go_simp
                    (try simp only [Act.put, List.setIfInBounds_toArray, List.set_cons_zero, List.set_cons_succ])
                    refine wpAnyH_take (i := 4) (v := .agg #[.int .i64 dy, .int .i64 sc, .int .i64 zn]) rfl (by kernel_rfl) (by kernel_rfl) (by kernel_rfl) (fun _ _ _ h => h) (Or.inl ⟨by kernel_rfl, fun wS hSw => ?_⟩) (by assumption) ?_
                    · (try dsimp only at hSw); have hx := unhide HX wS hSw; clear hSw; go_simp
                    (try simp only [Act.put, List.setIfInBounds_toArray, List.set_cons_zero, List.set_cons_succ])
                    refine wpAnyH_take (i := 5) (v := .slice (some ⟨g, off, none⟩) n cap) rfl (by kernel_rfl) (by kernel_rfl) (by kernel_rfl) (fun _ _ _ h => h) (Or.inl ⟨by kernel_rfl, fun wS hSw => ?_⟩) (by assumption) ?_
                    · (try dsimp only at hSw); go_simp
                    (try simp only [Act.put, List.setIfInBounds_toArray, List.set_cons_zero, List.set_cons_succ])
                    refine wpAnyH_take (i := 6) (v := .int .i64 (k : Int)) rfl (by kernel_rfl) (by kernel_rfl) (by kernel_rfl) (fun _ _ _ h => h) (Or.inl ⟨by kernel_rfl, fun wS hSw => ?_⟩) (by assumption) ?_
                    · (try dsimp only at hSw); go_simp
                    (try simp only [Act.put, List.setIfInBounds_toArray, List.set_cons_zero, List.set_cons_succ])
                    refine wpAnyH_take (i := 7) (v := .int .i64 ((k : Int) - 1)) rfl (by kernel_rfl) (by kernel_rfl) (by kernel_rfl) (fun _ _ _ h => h) (Or.inl ⟨by kernel_rfl, fun wS hSw => ?_⟩) (by assumption) ?_
                    · (try dsimp only at hSw); go_simp; (rw [IntKind.wrap_i64]; omega)
                    (try simp only [Act.put, List.setIfInBounds_toArray, List.set_cons_zero, List.set_cons_succ])
                    refine wpAnyH_take (i := 8) (v := .pointer (some ⟨g, off + (k - 1) * 6, none⟩)) rfl (by kernel_rfl) (by kernel_rfl) (by kernel_rfl) (fun _ _ _ h => h) (Or.inl ⟨by kernel_rfl, fun wS hSw => ?_⟩) (by assumption) ?_
                    · (try dsimp only at hSw); go_simp; (intro hx; exfalso; omega)
                    (try simp only [Act.put, List.setIfInBounds_toArray, List.set_cons_zero, List.set_cons_succ])
                    refine wpAnyH_take (i := 9) (v := .pointer (some ⟨g, off + (k - 1) * 6 + 2, none⟩)) rfl (by kernel_rfl) (by kernel_rfl) (by kernel_rfl) (fun _ _ _ h => h) (Or.inl ⟨by kernel_rfl, fun wS hSw => ?_⟩) (by assumption) ?_
                    · (try dsimp only at hSw); go_simp
                    (try simp only [Act.put, List.setIfInBounds_toArray, List.set_cons_zero, List.set_cons_succ])
                    refine wpAnyH_take (i := 10) (v := .agg #[.int .i64 pd, .int .i64 ps, .int .i64 pz]) rfl (by kernel_rfl) (by kernel_rfl) (by kernel_rfl) (fun _ _ _ h => h) (Or.inl ⟨by kernel_rfl, fun wS hSw => ?_⟩) (by assumption) ?_
                    · (try dsimp only at hSw); have hx := unhide HY wS hSw; clear hSw; go_simp
                    (try simp only [Act.put, List.setIfInBounds_toArray, List.set_cons_zero, List.set_cons_succ])
                    refine wpAnyH_take (i := 11) (v := .bool true) rfl (by kernel_rfl) (by kernel_rfl) (by kernel_rfl) (fun _ _ _ h => h) (Or.inl ⟨by kernel_rfl, fun wS hSw => ?_⟩) (by assumption) ?_
                    · (try dsimp only at hSw); go_simp
                    (try simp only [Act.put, List.setIfInBounds_toArray, List.set_cons_zero, List.set_cons_succ])
                    refine wpAnyH_take (i := 12) (v := .bool true) rfl (by kernel_rfl) (by kernel_rfl) (by kernel_rfl) (fun _ _ _ h => h) (Or.inl ⟨by kernel_rfl, fun wS hSw => ?_⟩) (by assumption) ?_
                    · (try dsimp only at hSw); go_simp
                    (try simp only [Act.put, List.setIfInBounds_toArray, List.set_cons_zero, List.set_cons_succ])
                    refine wpAnyH_take (i := 13) (v := .bool true) rfl (by kernel_rfl) (by kernel_rfl) (by kernel_rfl) (fun _ _ _ h => h) (Or.inl ⟨by kernel_rfl, fun wS hSw => ?_⟩) (by assumption) ?_
                    · (try dsimp only at hSw); go_simp
                    (try simp only [Act.put, List.setIfInBounds_toArray, List.set_cons_zero, List.set_cons_succ])
                    refine wpAnyH_take (i := 14) (v := .pointer (some ⟨B7, 2, none⟩)) rfl (by kernel_rfl) (by kernel_rfl) (by kernel_rfl) (fun _ _ _ h => h) (Or.inl ⟨by kernel_rfl, fun wS hSw => ?_⟩) (by assumption) ?_
                    · (try dsimp only at hSw); go_simp
                    (try simp only [Act.put, List.setIfInBounds_toArray, List.set_cons_zero, List.set_cons_succ])
                    refine wpAnyH_take (i := 15) (v := .agg #[.int .i64 dy, .int .i64 sc, .int .i64 zn]) rfl (by kernel_rfl) (by kernel_rfl) (by kernel_rfl) (fun _ _ _ h => h) (Or.inl ⟨by kernel_rfl, fun wS hSw => ?_⟩) (by assumption) ?_
                    · (try dsimp only at hSw); have hx := unhide HX wS hSw; clear hSw; go_simp
                    (try simp only [Act.put, List.setIfInBounds_toArray, List.set_cons_zero, List.set_cons_succ])
                    refine wpAnyH_ready (rs := [16]) (by kernel_rfl) (by simp) ?_
                    refine AllReadyH.cons rfl (fun K hK => ?_) AllReadyH.nil
                    have hB : Below W2.heap.size W2 _ := hHeld
                    go_simp
                    refine (unhide HIT _ (unhide HTW _ (belows' (unhide HB2) hB))).mono ?_
                    rintro e w6 ⟨rfl, b6⟩
                    have hw6 : Below W2.heap.size W2 w6 := belows' hB b6
                    clear b6 hB
                    go_wp2_with fail
                    refine hK.out _ _ ?_ (fun hHeld => ?_)
                    · exact hw6
                    clear hK K
                    (try simp only [Act.put, List.setIfInBounds_toArray, List.set_cons_zero, List.set_cons_succ])
                    refine wpAnyH_take (i := 17) (v := .bool false) rfl (by kernel_rfl) (by kernel_rfl) (by kernel_rfl) (fun _ _ _ h => h) (Or.inl ⟨by kernel_rfl, fun wS hSw => ?_⟩) (by assumption) ?_
                    · (try dsimp only at hSw); go_simp
                    (try simp only [Act.put, List.setIfInBounds_toArray, List.set_cons_zero, List.set_cons_succ])
                    refine wpAnyH_take (i := 18) (v := .bool false) rfl (by kernel_rfl) (by kernel_rfl) (by kernel_rfl) (fun _ _ _ h => h) (Or.inl ⟨by kernel_rfl, fun wS hSw => ?_⟩) (by assumption) ?_
                    · (try dsimp only at hSw); go_simp
                    (try simp only [Act.put, List.setIfInBounds_toArray, List.set_cons_zero, List.set_cons_succ])
                    refine wpAnyH_done (by kernel_rfl) ?_ _
                    have B9 := hide (belows' (unhide HB2) hHeld)
                    have z0 := (hHeld.cell (p := ⟨B7, 0, none⟩) hB7).trans a0
                    clear hHeld a0 a2 a3 a4
                    go_wp2
                    exact ⟨⟨k + 1, u + 1, by go_num, by go_num, by omega, by omega, HE3, HPN, B9⟩, by simp [intOf]; omega⟩
            · have d3 : decide ((rw_.size : Int) > 65536) = true := decide_eq_true (by omega)
              have hfin : res = false := by
                have h := unhide HEE
                rw [decide_eq_false hr2] at h
                simpa using h.symm
              have HB2 := hide (belows' (unhide HB) (unhide HAL))
              subst hfin
              clear HEE HPP HPV HNX HEQ hf2 hr2
              go_wp2_with fail
              refine (unhide HAF _).mono ?_
              rintro e w5 ⟨rfl, h5⟩
              subst h5
              go_wp2
              go_ret
              exact ⟨rfl, unhide HB2⟩
          · rw [decide_eq_false hf2] at HAF
            have hfin : res = false := by
              have h := unhide HEE
              rw [decide_eq_false hf2] at h
              simpa using h.symm
            have HB2 := hide (belows' (unhide HB) (unhide HAL))
            subst hfin
            clear HEE HPP HPV HNX HEQ hf2
            go_wp2_with fail
            refine (unhide HAF _).mono ?_
            rintro e w5 ⟨rfl, h5⟩
            subst h5
            go_wp2
            go_ret
            exact ⟨rfl, unhide HB2⟩
        · have d2 : decide ((u : Int) ≥ (next : Int)) = true := decide_eq_true (by omega)
          have hfin : res = false := by
            have h := unhide HEE
            rw [decide_eq_false (by omega : ¬ (le ≤ u ∧ u < next))] at h
            exact h.symm
          have HB2 := hide (belows' (unhide HB) (unhide HAL))
          subst hfin
          clear HEE HPP HPV HNX HEQ
          go_wp2
          go_ret
          exact ⟨rfl, unhide HB2⟩
    · have hlt1 : ¬ (k : Int) < (n : Int) := by omega
      have hfin : res = true := by
        have h := unhide HE
        rw [List.drop_of_length_le (by rw [unhide HN]; omega)] at h
        exact h.symm
      subst hfin
      go_wp2
      go_ret
      exact ⟨rfl, unhide HB⟩
end Go.Proofs.YthpjogfclklefaaDoor
