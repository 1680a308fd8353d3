/-
  What enc.letterNumbers does, over this seat's program: each byte's number, in an array.
-/
import Derived.Test.YtedpimhhbajljaaDoorBlc
import Derived.Test.YtedpimhhbajljaaDoorWlt
import Derived.Laws.CopyOwn
set_option linter.unusedVariables false
namespace Go.Proofs.YtedpimhhbajljaaDoor
open Go.RowKit Go.Proofs.Enc

/-- An array of 256 numbers. -/
def arrOf (f : Nat → Nat) : Array Value := Array.ofFn fun i : Fin 256 => Value.int .u8 (f i.val : Int)
theorem arr_size (f : Nat → Nat) : (arrOf f).size = 256 := by simp [arrOf]
theorem arr_get (f : Nat → Nat) {i : Nat} (h : i < 256) : (arrOf f)[i]? = some (.int .u8 (f i)) := by
  simp [arrOf, h]
theorem arr_set (f : Nat → Nat) (i v : Nat) : (arrOf f).setIfInBounds i (.int .u8 (v : Int)) = arrOf (fun j => if j = i then v else f j) := by
  apply Array.ext_getElem?
  intro j
  rw [Array.getElem?_setIfInBounds]
  by_cases hj : j < 256
  · have hR := arr_get (fun j => if j = i then v else f j) hj
    rw [hR]
    by_cases h : i = j
    · subst h; simp [arr_size, hj]
    · have h' : ¬ j = i := fun e => h e.symm
      simp only [h, h', if_false]
      exact arr_get f hj
  · have hR : (arrOf fun j => if j = i then v else f j)[j]? = none := Array.getElem?_eq_none (by rw [arr_size]; omega)
    rw [hR]
    by_cases h : i = j
    · subst h; simp [arr_size, hj]
    · simp only [h, if_false]
      exact Array.getElem?_eq_none (by rw [arr_size]; omega)
theorem arr_congr {f g : Nat → Nat} (h : ∀ j, j < 256 → f j = g j) : arrOf f = arrOf g := by
  unfold arrOf
  congr 1
  funext i
  rw [h i.val i.isLt]

def zeros256 : Array Value := Array.replicate 256 (.int .u8 0)
theorem zeros_arr : zeros256 = arrOf fun _ => 0 := by
  apply Array.ext
  · simp [zeros256, arrOf]
  · intro j h1 h2
    simp [zeros256, arrOf]
theorem info256 : (Tryd.prog.info? 96).map (·.zero) = some (some (.agg zeros256)) := by kernel_rfl
theorem zero256 (w : World) : (zeroValue 96).run Tryd.prog w = .ok (.agg zeros256) w := by
  obtain ⟨i, hi, hz⟩ := Option.map_eq_some_iff.1 info256
  simp [zeroValue, typeInfo, hi, hz, go_sem]

/-- The table, step by step: k bytes are 65 .. -/
def tab1 (k : Nat) : Nat → Nat := fun j => if j < k then 65 else 0
/-- .. k of four are 64 .. -/
def tab2 : Nat → Nat → Nat
  | 0 => tab1 256
  | k + 1 => fun j => if j = [10, 13, 32, 9].getD k 0 then 64 else tab2 k j
/-- .. k letters have their numbers. -/
def tab3 : Nat → Nat → Nat
  | 0 => tab2 4
  | k + 1 => fun j => if j = (let64 k).toNat then k else tab3 k j
theorem tab3_fin : ∀ c : Fin 256, tab3 64 c.val = num64 (UInt8.ofNat c.val) := by decide +kernel
theorem tab3_num (c : UInt8) : tab3 64 c.toNat = num64 c := by
  have := tab3_fin ⟨c.toNat, c.toNat_lt⟩
  simpa using this

theorem index4 (i x : Int) (hx : (i = 0 ∧ x = 10) ∨ (i = 1 ∧ x = 13) ∨ (i = 2 ∧ x = 32) ∨ (i = 3 ∧ x = 9)) (w : World) : (Instr.index 121 (.agg #[.int .u8 10, .int .u8 13, .int .u8 32, .int .u8 9]) (.int .i64 i)).run Tryd.prog w = .ok (.int .u8 x) w := by
  rcases hx with ⟨rfl, rfl⟩ | ⟨rfl, rfl⟩ | ⟨rfl, rfl⟩ | ⟨rfl, rfl⟩ <;>
    simp [Instr.index, run_underlying Tryd.underlying121, asIntOf, part, Tryd.sizeOf5, Tryd.isAgg5, go_sem]
theorem store256 (w : World) (g : Nat) (f h : Nat → Nat) (hg : w.heap[g]? = some (.cells (arrOf f) 96 (0, 0))) : (storeCells ⟨g, 0, none⟩ (arrOf h).toList).run Tryd.prog w = .ok () (w.setRow g (arrOf h)) := by
  have := run_storeCells_from (P := Tryd.prog) g 96 (arrOf h).toList 0 (arrOf f) w hg (by simp [arr_size]) (fun v hv => by
    have := Array.mem_toList_iff.1 hv
    simp only [arrOf, Array.mem_ofFn] at this
    obtain ⟨i, rfl⟩ := this
    rfl)
  simpa using this

theorem size256 (f : Nat → Nat) : (Tryd.prog.info? 96).map (·.size) = some (arrOf f).size := by
  rw [arr_size]; kernel_rfl
theorem one256 (f : Nat → Nat) : (arrOf f).all (·.oneCell') = true := by
  rw [Array.all_eq_true_iff_forall_mem]
  intro v hv
  simp only [arrOf, Array.mem_ofFn] at hv
  obtain ⟨i, rfl⟩ := hv
  rfl

set_option maxHeartbeats 1000000 in
set_option maxRecDepth 100000 in
theorem letterNumbers_any (w : World) :
    Calls Tryd.prog 57 #[] w fun e w' => e = .returned (.agg (arrOf (tab3 64))) ∧ Below w.heap.size w w' := by
  have hz := zero256
  go_enter Tryd.func57, Tryd.ntmps57
  go_wp2
  clear hz
  have b0 : Blk ((w.alloc (.cells zeros256 96)).alloc (.cells zeros256 96)) w.heap.size 96 zeros256 := (Blk.new w _ _).below ((Below.refl _ _).alloc (Nat.le_refl _) _)
  have b1 : Blk ((w.alloc (.cells zeros256 96)).alloc (.cells zeros256 96)) (w.heap.size + 1) 96 (arrOf (tab1 0)) := by
    have h := Blk.new (w.alloc (.cells zeros256 96)) 96 zeros256
    have e : zeros256 = arrOf (tab1 0) := by rw [zeros_arr]; exact arr_congr (fun j _ => by simp [tab1])
    simp only [World.size_alloc] at h
    rw [← e]
    exact h
  have bw : Below w.heap.size w ((w.alloc (.cells zeros256 96)).alloc (.cells zeros256 96)) := ((Below.refl _ w).alloc (Nat.le_refl _) _).alloc (by simp) _
  go_loopw [2, 6] (fun y z wr => ∃ k : Nat, z = .int .i64 k ∧ k ≤ 256 ∧ Hid (Blk wr w.heap.size 96 zeros256) ∧ Hid (Blk wr (w.heap.size + 1) 96 (arrOf (tab1 k))) ∧ Below w.heap.size w wr) (fun _ z _ => 256 - (intOf z).toNat)
  case atStart => exact ⟨0, rfl, by omega, hide b0, hide b1, bw⟩
  case round =>
    obtain ⟨k, rfl, hk, H0, H1, hbw⟩ := hrel
    by_cases hlt : k < 256
    · have hc := (unhide H1).cell k
      rw [arr_get _ hlt] at hc
      have hf := (unhide H1).frozen k
      have hset := (unhide H1).set k (.int .u8 65)
      rw [show (Value.int .u8 65) = .int .u8 ((65 : Nat) : Int) from rfl, arr_set, arr_congr (g := tab1 (k + 1)) (fun j _ => by unfold tab1; by_cases h : j = k <;> simp [h] <;> (split <;> split <;> omega))] at hset
      have HS := hide hset
      clear hset
      go_wp2
      exact ⟨⟨k + 1, by go_num, by omega, hide ((unhide H0).other (by simp) _), HS, hbw.setCell (by simp) _⟩, by simp [intOf]; omega⟩
    · have hk6 : k = 256 := by omega
      have H1' : Hid (Blk wr (w.heap.size + 1) 96 (arrOf (tab2 0))) := by rw [hk6] at H1; exact H1
      clear b0 b1 bw hk6 H1
      go_wp2
      go_loopw [4, 13] (fun y z wr => ∃ k : Nat, ((k = 0 ∧ z = .int .i64 0) ∨ (k = 1 ∧ z = .int .i64 1) ∨ (k = 2 ∧ z = .int .i64 2) ∨ (k = 3 ∧ z = .int .i64 3) ∨ (k = 4 ∧ z = .int .i64 4)) ∧ Hid (Blk wr w.heap.size 96 zeros256) ∧ Hid (Blk wr (w.heap.size + 1) 96 (arrOf (tab2 k))) ∧ Below w.heap.size w wr) (fun _ z _ => 4 - (intOf z).toNat)
      case atStart => exact ⟨0, Or.inl ⟨rfl, rfl⟩, H0, H1', hbw⟩
      case round =>
        clear H0 H1' hbw
        obtain ⟨k, hj, H0, H1, hbw⟩ := hrel
        have step : ∀ x : Nat, [10, 13, 32, 9].getD k 0 = x → x < 256 → (wr.cell? ⟨w.heap.size + 1, x, none⟩ = some (.int .u8 (tab2 k x)) ∧ wr.frozen? ⟨w.heap.size + 1, x, none⟩ = false ∧ Hid (Blk (wr.setCell ⟨w.heap.size + 1, x, none⟩ (.int .u8 64)) (w.heap.size + 1) 96 (arrOf (tab2 (k + 1)))) ∧ Hid (Blk (wr.setCell ⟨w.heap.size + 1, x, none⟩ (.int .u8 64)) w.heap.size 96 zeros256) ∧ Below w.heap.size w (wr.setCell ⟨w.heap.size + 1, x, none⟩ (.int .u8 64))) := by
          intro x hx hx2
          have hc := (unhide H1).cell x
          rw [arr_get _ hx2] at hc
          have hset := (unhide H1).set x (.int .u8 64)
          rw [show (Value.int .u8 64) = .int .u8 ((64 : Nat) : Int) from rfl, arr_set, arr_congr (g := tab2 (k + 1)) (fun j _ => by rw [tab2, hx])] at hset
          exact ⟨hc, (unhide H1).frozen x, hide hset, hide ((unhide H0).other (by simp) _), hbw.setCell (by simp) _⟩
        rcases hj with ⟨rfl, rfl⟩ | ⟨rfl, rfl⟩ | ⟨rfl, rfl⟩ | ⟨rfl, rfl⟩ | ⟨rfl, rfl⟩
        · obtain ⟨hc, hf, HS, H0', hb'⟩ := step 10 rfl (by omega)
          have hix := index4 0 10 (by omega)
          clear step
          go_wp2
          exact ⟨⟨0 + 1, Or.inr (Or.inl ⟨rfl, rfl⟩), H0', HS, hb'⟩, by simp [intOf]⟩
        · obtain ⟨hc, hf, HS, H0', hb'⟩ := step 13 rfl (by omega)
          have hix := index4 1 13 (by omega)
          clear step
          go_wp2
          exact ⟨⟨1 + 1, Or.inr (Or.inr (Or.inl ⟨rfl, rfl⟩)), H0', HS, hb'⟩, by simp [intOf]⟩
        · obtain ⟨hc, hf, HS, H0', hb'⟩ := step 32 rfl (by omega)
          have hix := index4 2 32 (by omega)
          clear step
          go_wp2
          exact ⟨⟨2 + 1, Or.inr (Or.inr (Or.inr (Or.inl ⟨rfl, rfl⟩))), H0', HS, hb'⟩, by simp [intOf]⟩
        · obtain ⟨hc, hf, HS, H0', hb'⟩ := step 9 rfl (by omega)
          have hix := index4 3 9 (by omega)
          clear step
          go_wp2
          exact ⟨⟨3 + 1, Or.inr (Or.inr (Or.inr (Or.inr ⟨rfl, rfl⟩))), H0', HS, hb'⟩, by simp [intOf]⟩
        · have H1' : Hid (Blk wr (w.heap.size + 1) 96 (arrOf (tab3 0))) := H1
          clear H1 step
          go_wp2
          go_loopw [5, 19] (fun y z wr => ∃ k : Nat, z = .int .i64 k ∧ k ≤ 64 ∧ Hid (Blk wr w.heap.size 96 zeros256) ∧ Hid (Blk wr (w.heap.size + 1) 96 (arrOf (tab3 k))) ∧ Below w.heap.size w wr) (fun _ z _ => 64 - (intOf z).toNat)
          case atStart => exact ⟨0, rfl, by omega, H0, H1', hbw⟩
          case round =>
            clear H0 H1' hbw
            obtain ⟨k, rfl, hk, H0, H1, hbw⟩ := hrel
            by_cases hlt : k < 64
            · have hB : k < letB.size := by rw [letB_size]; exact hlt
              have hx := letB_get k hlt hB
              have hx2 : (letB[k]'hB).toNat < 256 := (letB[k]'hB).toNat_lt
              have hx3 : ((letB[k]'hB).toNat : Int) < 256 := by omega
              have hc : ∀ x : UInt8, wr.cell? ⟨w.heap.size + 1, x.toNat, none⟩ = some (.int .u8 (tab3 k x.toNat)) := fun x => by rw [(unhide H1).cell x.toNat, arr_get _ x.toNat_lt]
              have hf : ∀ x : Nat, wr.frozen? ⟨w.heap.size + 1, x, none⟩ = false := fun x => (unhide H1).frozen x
              have hset := (unhide H1).set (letB[k]'hB).toNat (.int .u8 (k : Int))
              rw [arr_set, arr_congr (g := tab3 (k + 1)) (fun j _ => by rw [tab3, hx])] at hset
              have HS := hide hset
              have H0' := hide ((unhide H0).other (a := ⟨w.heap.size + 1, (letB[k]'hB).toNat, none⟩) (by simp) (.int .u8 (k : Int)))
              have hb' := hbw.setCell (p := ⟨w.heap.size + 1, (letB[k]'hB).toNat, none⟩) (by simp) (.int .u8 (k : Int))
              clear hset hx
              unfold letB at hx2 hx3
              go_wp2
              exact ⟨⟨k + 1, by go_num, by omega, H0', HS, hb'⟩, by simp [intOf]; omega⟩
            · have hk4 : k = 64 := by omega
              have H1' : Hid (Blk wr (w.heap.size + 1) 96 (arrOf (tab3 64))) := by rw [hk4] at H1; exact H1
              clear hk4 H1
              go_wp2
              refine wp_load_row 96 (.tmp 1) rfl (w.heap.size + 1) rfl 96 (arrOf (tab3 64)) (0, 0) _ (unhide H1') Tryd.underlying96 rfl (size256 _) ?_
              have hg0 : wr.heap[w.heap.size]? = some (.cells (arrOf fun _ => 0) 96 (0, 0)) := by
                have h := unhide H0
                rw [zeros_arr] at h
                exact h
              have hst := store256 wr w.heap.size (fun _ => 0) (tab3 64) hg0
              have HG := hide hg0
              clear hg0
              go_wp2
              exact bodyPost_ret (v := .agg (arrOf (tab3 64))) (results_cell_row rfl _ _ w.heap.size 96 (arrOf (tab3 64)) (0, 0) _ rfl (setRow_heap wr w.heap.size _ _ 96 (0, 0) (unhide HG)) Tryd.underlying96 rfl (size256 _)) rfl ⟨rfl, below_setRow hbw (Nat.le_refl _) _⟩
end Go.Proofs.YtedpimhhbajljaaDoor
