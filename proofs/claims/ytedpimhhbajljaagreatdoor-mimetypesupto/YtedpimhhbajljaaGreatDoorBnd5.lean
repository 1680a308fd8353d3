/-
  What enc.letterNumbers does, over this seat's program: each byte's number, in an array.
-/
import Derived.Test.YtedpimhhbajljaaGreatDoorBlc
import Derived.Test.YtedpimhhbajljaaGreatDoorBnd4
import Derived.Laws.CopyOwn
set_option linter.unusedVariables false
namespace Go.Proofs.YtedpimhhbajljaaGreatDoor
open Go.RowKit Go.Proofs.Enc

/-- An array of 256 numbers. -/
def arrOf (f : Nat → Nat) : Array Value := Array.ofFn fun i : Fin 256 => Value.int .u8 (f i.val : Int)
theorem arr_size (f : Nat → Nat) : (arrOf f).size = 256 := by simp [arrOf]
theorem arr_get (f : Nat → Nat) {i : Nat} (h : i < 256) : (arrOf f)[i]? = some (.int .u8 (f i)) := by
  simp [arrOf, h]
theorem arr_set (f : Nat → Nat) (i v : Nat) : (arrOf f).setIfInBounds i (.int .u8 (v : Int)) = arrOf (fun j => if j = i then v else f j) := by
  apply Array.ext_getElem?
  intro j
  rw [Array.getElem?_setIfInBounds]
  by_cases hj : j < 256
  · have hR := arr_get (fun j => if j = i then v else f j) hj
    rw [hR]
    by_cases h : i = j
    · subst h; simp [arr_size, hj]
    · have h' : ¬ j = i := fun e => h e.symm
      simp only [h, h', if_false]
      exact arr_get f hj
  · have hR : (arrOf fun j => if j = i then v else f j)[j]? = none := Array.getElem?_eq_none (by rw [arr_size]; omega)
    rw [hR]
    by_cases h : i = j
    · subst h; simp [arr_size, hj]
    · simp only [h, if_false]
      exact Array.getElem?_eq_none (by rw [arr_size]; omega)
theorem arr_congr {f g : Nat → Nat} (h : ∀ j, j < 256 → f j = g j) : arrOf f = arrOf g := by
  unfold arrOf
  congr 1
  funext i
  rw [h i.val i.isLt]

def zeros256 : Array Value := Array.replicate 256 (.int .u8 0)
theorem zeros_arr : zeros256 = arrOf fun _ => 0 := by
  apply Array.ext
  · simp [zeros256, arrOf]
  · intro j h1 h2
    simp [zeros256, arrOf]
theorem info256 : (Tryz.prog.info? 102).map (·.zero) = some (some (.agg zeros256)) := by kernel_rfl
theorem zero256 (w : World) : (zeroValue 102).run Tryz.prog w = .ok (.agg zeros256) w := by
  obtain ⟨i, hi, hz⟩ := Option.map_eq_some_iff.1 info256
  simp [zeroValue, typeInfo, hi, hz, go_sem]

/-- The table, step by step: k bytes are 65 .. -/
def tab1 (k : Nat) : Nat → Nat := fun j => if j < k then 65 else 0
/-- .. k of four are 64 .. -/
def tab2 : Nat → Nat → Nat
  | 0 => tab1 256
  | k + 1 => fun j => if j = [10, 13, 32, 9].getD k 0 then 64 else tab2 k j
/-- .. k letters have their numbers. -/
def tab3 : Nat → Nat → Nat
  | 0 => tab2 4
  | k + 1 => fun j => if j = (let64 k).toNat then k else tab3 k j
theorem tab3_fin : ∀ c : Fin 256, tab3 64 c.val = num64 (UInt8.ofNat c.val) := by decide +kernel
theorem tab3_num (c : UInt8) : tab3 64 c.toNat = num64 c := by
  have := tab3_fin ⟨c.toNat, c.toNat_lt⟩
  simpa using this

theorem index4 (i x : Int) (hx : (i = 0 ∧ x = 10) ∨ (i = 1 ∧ x = 13) ∨ (i = 2 ∧ x = 32) ∨ (i = 3 ∧ x = 9)) (w : World) : (Instr.index 127 (.agg #[.int .u8 10, .int .u8 13, .int .u8 32, .int .u8 9]) (.int .i64 i)).run Tryz.prog w = .ok (.int .u8 x) w := by
  rcases hx with ⟨rfl, rfl⟩ | ⟨rfl, rfl⟩ | ⟨rfl, rfl⟩ | ⟨rfl, rfl⟩ <;>
    simp [Instr.index, run_underlying Tryz.underlying127, asIntOf, part, Tryz.sizeOf5, Tryz.isAgg5, go_sem]
theorem store256 (w : World) (g : Nat) (f h : Nat → Nat) (hg : w.heap[g]? = some (.cells (arrOf f) 102 (0, 0))) : (storeCells ⟨g, 0, none⟩ (arrOf h).toList).run Tryz.prog w = .ok () (w.setRow g (arrOf h)) := by
  have := run_storeCells_from (P := Tryz.prog) g 102 (arrOf h).toList 0 (arrOf f) w hg (by simp [arr_size]) (fun v hv => by
    have := Array.mem_toList_iff.1 hv
    simp only [arrOf, Array.mem_ofFn] at this
    obtain ⟨i, rfl⟩ := this
    rfl)
  simpa using this

theorem size256 (f : Nat → Nat) : (Tryz.prog.info? 102).map (·.size) = some (arrOf f).size := by
  rw [arr_size]; kernel_rfl
theorem one256 (f : Nat → Nat) : (arrOf f).all (·.oneCell') = true := by
  rw [Array.all_eq_true_iff_forall_mem]
  intro v hv
  simp only [arrOf, Array.mem_ofFn] at hv
  obtain ⟨i, rfl⟩ := hv
  rfl

set_option maxHeartbeats 1000000 in
set_option maxRecDepth 100000 in
theorem letterNumbers_any (w : World) :
    Calls Tryz.prog 71 #[] w fun e w' => e = .returned (.agg (arrOf (tab3 64))) ∧ Below w.heap.size w w' := by
  have hz := zero256
  go_enter Tryz.func71, Tryz.ntmps71
  go_wp2
  clear hz
  have b0 : Blk ((w.alloc (.cells zeros256 102)).alloc (.cells zeros256 102)) w.heap.size 102 zeros256 := (Blk.new w _ _).below ((Below.refl _ _).alloc (Nat.le_refl _) _)
  have b1 : Blk ((w.alloc (.cells zeros256 102)).alloc (.cells zeros256 102)) (w.heap.size + 1) 102 (arrOf (tab1 0)) := by
    have h := Blk.new (w.alloc (.cells zeros256 102)) 102 zeros256
    have e : zeros256 = arrOf (tab1 0) := by rw [zeros_arr]; exact arr_congr (fun j _ => by simp [tab1])
    simp only [World.size_alloc] at h
    rw [← e]
    exact h
  have bw : Below w.heap.size w ((w.alloc (.cells zeros256 102)).alloc (.cells zeros256 102)) := ((Below.refl _ w).alloc (Nat.le_refl _) _).alloc (by simp) _
  go_loopw [2, 6] (fun y z wr => ∃ k : Nat, z = .int .i64 k ∧ k ≤ 256 ∧ Hid (Blk wr w.heap.size 102 zeros256) ∧ Hid (Blk wr (w.heap.size + 1) 102 (arrOf (tab1 k))) ∧ Below w.heap.size w wr) (fun _ z _ => 256 - (intOf z).toNat)
  case atStart => exact ⟨0, rfl, by omega, hide b0, hide b1, bw⟩
  case round =>
    obtain ⟨k, rfl, hk, H0, H1, hbw⟩ := hrel
    by_cases hlt : k < 256
    · have hc := (unhide H1).cell k
      rw [arr_get _ hlt] at hc
      have hf := (unhide H1).frozen k
      have hset := (unhide H1).set k (.int .u8 65)
      rw [show (Value.int .u8 65) = .int .u8 ((65 : Nat) : Int) from rfl, arr_set, arr_congr (g := tab1 (k + 1)) (fun j _ => by unfold tab1; by_cases h : j = k <;> simp [h] <;> (split <;> split <;> omega))] at hset
      have HS := hide hset
      clear hset
      go_wp2
      exact ⟨⟨k + 1, by go_num, by omega, hide ((unhide H0).other (by simp) _), HS, hbw.setCell (by simp) _⟩, by simp [intOf]; omega⟩
    · have hk6 : k = 256 := by omega
      have H1' : Hid (Blk wr (w.heap.size + 1) 102 (arrOf (tab2 0))) := by rw [hk6] at H1; exact H1
      clear b0 b1 bw hk6 H1
      go_wp2
      go_loopw [4, 13] (fun y z wr => ∃ k : Nat, ((k = 0 ∧ z = .int .i64 0) ∨ (k = 1 ∧ z = .int .i64 1) ∨ (k = 2 ∧ z = .int .i64 2) ∨ (k = 3 ∧ z = .int .i64 3) ∨ (k = 4 ∧ z = .int .i64 4)) ∧ Hid (Blk wr w.heap.size 102 zeros256) ∧ Hid (Blk wr (w.heap.size + 1) 102 (arrOf (tab2 k))) ∧ Below w.heap.size w wr) (fun _ z _ => 4 - (intOf z).toNat)
      case atStart => exact ⟨0, Or.inl ⟨rfl, rfl⟩, H0, H1', hbw⟩
      case round =>
        clear H0 H1' hbw
        obtain ⟨k, hj, H0, H1, hbw⟩ := hrel
        have step : ∀ x : Nat, [10, 13, 32, 9].getD k 0 = x → x < 256 → (wr.cell? ⟨w.heap.size + 1, x, none⟩ = some (.int .u8 (tab2 k x)) ∧ wr.frozen? ⟨w.heap.size + 1, x, none⟩ = false ∧ Hid (Blk (wr.setCell ⟨w.heap.size + 1, x, none⟩ (.int .u8 64)) (w.heap.size + 1) 102 (arrOf (tab2 (k + 1)))) ∧ Hid (Blk (wr.setCell ⟨w.heap.size + 1, x, none⟩ (.int .u8 64)) w.heap.size 102 zeros256) ∧ Below w.heap.size w (wr.setCell ⟨w.heap.size + 1, x, none⟩ (.int .u8 64))) := by
          intro x hx hx2
          have hc := (unhide H1).cell x
          rw [arr_get _ hx2] at hc
          have hset := (unhide H1).set x (.int .u8 64)
          rw [show (Value.int .u8 64) = .int .u8 ((64 : Nat) : Int) from rfl, arr_set, arr_congr (g := tab2 (k + 1)) (fun j _ => by rw [tab2, hx])] at hset
          exact ⟨hc, (unhide H1).frozen x, hide hset, hide ((unhide H0).other (by simp) _), hbw.setCell (by simp) _⟩
        rcases hj with ⟨rfl, rfl⟩ | ⟨rfl, rfl⟩ | ⟨rfl, rfl⟩ | ⟨rfl, rfl⟩ | ⟨rfl, rfl⟩
        · obtain ⟨hc, hf, HS, H0', hb'⟩ := step 10 rfl (by omega)
          have hix := index4 0 10 (by omega)
          clear step
          go_wp2
          exact ⟨⟨0 + 1, Or.inr (Or.inl ⟨rfl, rfl⟩), H0', HS, hb'⟩, by simp [intOf]⟩
        · obtain ⟨hc, hf, HS, H0', hb'⟩ := step 13 rfl (by omega)
          have hix := index4 1 13 (by omega)
          clear step
          go_wp2
          exact ⟨⟨1 + 1, Or.inr (Or.inr (Or.inl ⟨rfl, rfl⟩)), H0', HS, hb'⟩, by simp [intOf]⟩
        · obtain ⟨hc, hf, HS, H0', hb'⟩ := step 32 rfl (by omega)
          have hix := index4 2 32 (by omega)
          clear step
          go_wp2
          exact ⟨⟨2 + 1, Or.inr (Or.inr (Or.inr (Or.inl ⟨rfl, rfl⟩))), H0', HS, hb'⟩, by simp [intOf]⟩
        · obtain ⟨hc, hf, HS, H0', hb'⟩ := step 9 rfl (by omega)
          have hix := index4 3 9 (by omega)
          clear step
          go_wp2
          exact ⟨⟨3 + 1, Or.inr (Or.inr (Or.inr (Or.inr ⟨rfl, rfl⟩))), H0', HS, hb'⟩, by simp [intOf]⟩
        · have H1' : Hid (Blk wr (w.heap.size + 1) 102 (arrOf (tab3 0))) := H1
          clear H1 step
          go_wp2
          go_loopw [5, 19] (fun y z wr => ∃ k : Nat, z = .int .i64 k ∧ k ≤ 64 ∧ Hid (Blk wr w.heap.size 102 zeros256) ∧ Hid (Blk wr (w.heap.size + 1) 102 (arrOf (tab3 k))) ∧ Below w.heap.size w wr) (fun _ z _ => 64 - (intOf z).toNat)
          case atStart => exact ⟨0, rfl, by omega, H0, H1', hbw⟩
          case round =>
            clear H0 H1' hbw
            obtain ⟨k, rfl, hk, H0, H1, hbw⟩ := hrel
            by_cases hlt : k < 64
            · have hB : k < letB.size := by rw [letB_size]; exact hlt
              have hx := letB_get k hlt hB
              have hx2 : (letB[k]'hB).toNat < 256 := (letB[k]'hB).toNat_lt
              have hx3 : ((letB[k]'hB).toNat : Int) < 256 := by omega
              have hc : ∀ x : UInt8, wr.cell? ⟨w.heap.size + 1, x.toNat, none⟩ = some (.int .u8 (tab3 k x.toNat)) := fun x => by rw [(unhide H1).cell x.toNat, arr_get _ x.toNat_lt]
              have hf : ∀ x : Nat, wr.frozen? ⟨w.heap.size + 1, x, none⟩ = false := fun x => (unhide H1).frozen x
              have hset := (unhide H1).set (letB[k]'hB).toNat (.int .u8 (k : Int))
              rw [arr_set, arr_congr (g := tab3 (k + 1)) (fun j _ => by rw [tab3, hx])] at hset
              have HS := hide hset
              have H0' := hide ((unhide H0).other (a := ⟨w.heap.size + 1, (letB[k]'hB).toNat, none⟩) (by simp) (.int .u8 (k : Int)))
              have hb' := hbw.setCell (p := ⟨w.heap.size + 1, (letB[k]'hB).toNat, none⟩) (by simp) (.int .u8 (k : Int))
              clear hset hx
              unfold letB at hx2 hx3
              go_wp2
              exact ⟨⟨k + 1, by go_num, by omega, H0', HS, hb'⟩, by simp [intOf]; omega⟩
            · have hk4 : k = 64 := by omega
              have H1' : Hid (Blk wr (w.heap.size + 1) 102 (arrOf (tab3 64))) := by rw [hk4] at H1; exact H1
              clear hk4 H1
              go_wp2
              refine wp_load_row 102 (.tmp 1) rfl (w.heap.size + 1) rfl 102 (arrOf (tab3 64)) (0, 0) _ (unhide H1') Tryz.underlying102 rfl (size256 _) ?_
              have hg0 : wr.heap[w.heap.size]? = some (.cells (arrOf fun _ => 0) 102 (0, 0)) := by
                have h := unhide H0
                rw [zeros_arr] at h
                exact h
              have hst := store256 wr w.heap.size (fun _ => 0) (tab3 64) hg0
              have HG := hide hg0
              clear hg0
              go_wp2
              exact bodyPost_ret (v := .agg (arrOf (tab3 64))) (results_cell_row rfl _ _ w.heap.size 102 (arrOf (tab3 64)) (0, 0) _ rfl (setRow_heap wr w.heap.size _ _ 102 (0, 0) (unhide HG)) Tryz.underlying102 rfl (size256 _)) rfl ⟨rfl, below_setRow hbw (Nat.le_refl _) _⟩
end Go.Proofs.YtedpimhhbajljaaGreatDoor

/-
  What enc.FromBase64 and enc.Strict do, over this seat's program: what bytes in base64 say, and how many are counted.
-/
set_option linter.unusedVariables false
namespace Go.Proofs.YtedpimhhbajljaaGreatDoor
open Go.RowKit Go.Proofs.Enc

theorem orN (b n : Nat) (hb : b < 4294967296) (hn : n < 64) : bits .or .u32 ((b : Int) * 64 % 4294967296) (n : Int) = ((b * 64 % 4294967296 + n : Nat) : Int) := by
  rw [show ((b : Int) * 64 % 4294967296) = ((b * 64 % 4294967296 : Nat) : Int) by omega]
  refine (u32_or_nat _ _ (by omega) (by omega)).trans ?_
  rw [nat_join 6 (b * 64 % 4294967296) n (by omega) (by omega)]

/-- What the frame of FromBase64 holds at its label, k bytes read. -/
def FrbJ (s : ByteArray) (w : World) (a' : Act) (w' : World) : Prop :=
  ∃ (k b hv cnt g : Nat) (acc : List UInt8) (u10 u11 u12 u13 u14 u15 u16 u17 u18 u19 u20 u21 u22 u23 u24 u25 u26 u27 u28 u29 u30 u31 u32 u33 u34 u35 u36 u37 u38 u39 u40 u41 u42 u43 u44 u45 u46 u47 u48 u49 u50 u51 u52 u53 u54 u55 u56 u57 u58 : Value), a' = { tmps := #[.string s, undef, .string ⟨#[]⟩, .int .i64 0, .pointer (some ⟨w.heap.size, 0, none⟩), .pointer (some ⟨g, 0, none⟩), .int .u32 b, .int .i64 hv, .int .i64 k, .int .i64 cnt, u10, u11, u12, u13, u14, u15, u16, u17, u18, u19, u20, u21, u22, u23, u24, u25, u26, u27, u28, u29, u30, u31, u32, u33, u34, u35, u36, u37, u38, u39, u40, u41, u42, u43, u44, u45, u46, u47, u48, u49, u50, u51, u52, u53, u54, u55, u56, u57, u58], defers := [] } ∧
    k ≤ s.size ∧ b < 4294967296 ∧ (hv = 0 ∨ hv = 2 ∨ hv = 4 ∨ hv = 6) ∧ cnt ≤ k ∧ acc.length ≤ k ∧
    Hid (acc ++ (from64 hv (b % 2 ^ hv) (s.data.toList.drop k)).1 = (from64 0 0 s.data.toList).1 ∧ cnt + (from64 hv (b % 2 ^ hv) (s.data.toList.drop k)).2 = (from64 0 0 s.data.toList).2) ∧
    Hid (Blk w' g 102 (arrOf (tab3 64))) ∧ g ≠ w.heap.size ∧
    Lib.IsBuilderF 65 5 w.heap.size w.heap.size (Lib.byteCells acc) w' ∧ Below w.heap.size w w' ∧ w.heap.size + 1 ≤ w'.heap.size

set_option maxHeartbeats 1000000 in
set_option maxRecDepth 100000 in
/-- enc.FromBase64 answers what the bytes say. -/
theorem from64_any (s : ByteArray) (w : World) (hs : s.size ≤ 1099511627776) :
    Calls Tryz.prog 49 #[.string s] w fun e w' => e = .returned (.tuple #[.string (bts (from64 0 0 s.data.toList).1), .int .i64 (from64 0 0 s.data.toList).2]) ∧ Below w.heap.size w w' := by
  have hz := zero256
  go_enter Tryz.func49, Tryz.ntmps49
  go_wp2
  refine wp_scope_one 0 (FrbJ s w) (fun a' _ => s.size - (intOf (a'.tmps.getD 8 undef)).toNat) rfl ?_ ?_
  · intro hp
    go_wp2_with fail
    rw [show ((s.size : Int)) / 4 * 3 = ((s.size / 4 * 3 : Nat) : Int) by omega]
    refine (grow_new _ w (by omega)).mono ?_
    rintro e w1 ⟨rfl, h1, b1, z1⟩
    go_wp2_with fail
    refine (letterNumbers_any w1).mono ?_
    rintro e w2 ⟨rfl, b2⟩
    have z2 := b2.size
    have hst := store256 (w2.alloc (.cells zeros256 102)) w2.heap.size (fun _ => 0) (tab3 64) (by rw [← zeros_arr]; exact heap_alloc_new w2 _)
    have b3 : Below w2.heap.size w2 ((w2.alloc (.cells zeros256 102)).setRow w2.heap.size (arrOf (tab3 64))) := below_setRow ((Below.refl _ _).alloc (Nat.le_refl _) _) (Nat.le_refl _) _
    have hI := isB_below (isB_below h1 b2) b3
    have hB : Blk ((w2.alloc (.cells zeros256 102)).setRow w2.heap.size (arrOf (tab3 64))) w2.heap.size 102 (arrOf (tab3 64)) := setRow_heap _ _ _ _ _ _ (heap_alloc_new w2 _)
    have hbb := belows' (belows' b1 b2) b3
    have hz3 : w.heap.size + 1 ≤ ((w2.alloc (.cells zeros256 102)).setRow w2.heap.size (arrOf (tab3 64))).heap.size := by simp; omega
    have HZ3 := hide hz3
    have HB := hide hB
    have HI := hide hI
    have HBB := hide hbb
    clear hB hI hbb b3 h1 hz3
    go_wp2
    go_step3
    rename_i K hK
    exact hK _ _ (hp _ _ ⟨0, 0, 0, 0, w2.heap.size, [], _, _, _, _, _, _, _, _, _, _, _, _, _, _, _, _, _, _, _, _, _, _, _, _, _, _, _, _, _, _, _, _, _, _, _, _, _, _, _, _, _, _, _, _, _, _, _, _, _, rfl, Nat.zero_le _, by omega, Or.inl rfl, Nat.zero_le _, by simp, hide ⟨rfl, Nat.zero_add _⟩, HB, by omega, unhide HI, unhide HBB, unhide HZ3⟩)
  · rintro a' w' ⟨k, b, hv, cnt, g, acc, u10, u11, u12, u13, u14, u15, u16, u17, u18, u19, u20, u21, u22, u23, u24, u25, u26, u27, u28, u29, u30, u31, u32, u33, u34, u35, u36, u37, u38, u39, u40, u41, u42, u43, u44, u45, u46, u47, u48, u49, u50, u51, u52, u53, u54, u55, u56, u57, u58, rfl, hk, hb, hhv, hcnt, hacc, HE, HB, hg, hI, hbw, hz1⟩
    by_cases hend : k = s.size
    · have hbe : ((k : Int) == (s.size : Int)) = true := by simp [hend]
      have hfin : acc = (from64 0 0 s.data.toList).1 ∧ cnt = (from64 0 0 s.data.toList).2 := by
        have := unhide HE
        rw [drop_end s (by omega)] at this
        simpa [from64] using this
      have HF := hide hfin
      clear hfin hend
      go_wp2_with fail
      refine (Tryz.Builder_String_any_k w.heap.size w.heap.size acc _ hI (by omega)).mono ?_
      rintro e w2 ⟨rfl, _, hb2, _⟩
      go_wp2
      simp only [Exit.jump]
      go_ret2
      exact ⟨by rw [← (unhide HF).1, ← (unhide HF).2]; rfl, hbw.trans hb2⟩
    · have hlt : k < s.size := by omega
      have hbe : ((k : Int) == (s.size : Int)) = false := by simp; omega
      have hd := drop_byte s k hlt
      by_cases h61 : s[k].toNat = 61
      · have hb6 : ((s[k].toNat : Int) == 61) = true := by simp [h61]
        have hfin : acc = (from64 0 0 s.data.toList).1 ∧ cnt = (from64 0 0 s.data.toList).2 := by
          have := unhide HE
          rw [hd, from64, if_pos (UInt8.toNat_inj.1 h61)] at this
          simpa using this
        have HF := hide hfin
        clear hfin hend hd h61
        go_wp2_with fail
        refine (Tryz.Builder_String_any_k w.heap.size w.heap.size acc _ hI (by omega)).mono ?_
        rintro e w2 ⟨rfl, _, hb2, _⟩
        go_wp2
        simp only [Exit.jump]
        go_ret2
        exact ⟨by rw [← (unhide HF).1, ← (unhide HF).2]; rfl, hbw.trans hb2⟩
      · have hb6 : ((s[k].toNat : Int) == 61) = false := by simp; omega
        have hne : ¬ s[k] = 61 := fun e => h61 (by rw [e]; rfl)
        have hcell : w'.cell? ⟨g, s[k].toNat, none⟩ = some (.int .u8 (num64 s[k])) := by rw [(unhide HB).cell, arr_get _ s[k].toNat_lt, tab3_num]
        have hc256 : (s[k].toNat : Int) < 256 := by have := s[k].toNat_lt; omega
        have HE2 : Hid (acc ++ (from64 hv (b % 2 ^ hv) (s[k] :: s.data.toList.drop (k + 1))).1 = (from64 0 0 s.data.toList).1 ∧ cnt + (from64 hv (b % 2 ^ hv) (s[k] :: s.data.toList.drop (k + 1))).2 = (from64 0 0 s.data.toList).2) := by rw [← hd]; exact HE
        clear hd HE hend
        by_cases h65 : num64 s[k] = 65
        · have he : ((num64 s[k] : Int) == 65) = true := by simp [h65]
          have hfin := unhide HE2
          rw [from64, if_neg hne, if_pos h65] at hfin
          have HF := hide hfin
          clear hfin HE2 h65
          generalize num64 s[k] = n at hcell he
          go_wp2
          go_step3
          refine ⟨rfl, ⟨k + 1, b, hv, cnt + 1, g, acc, _, _, _, _, _, _, _, _, _, _, _, _, _, _, _, _, _, _, _, _, _, _, _, _, _, _, _, _, _, _, _, _, _, _, _, _, _, _, _, _, _, _, _, _, _, _, _, _, _, rfl, by omega, hb, hhv, by omega, by omega, hide ⟨(unhide HF).1, by have := (unhide HF).2; omega⟩, HB, hg, hI, hbw, hz1⟩, ?_⟩
          simp [intOf]
          omega
        · have he : ((num64 s[k] : Int) == 65) = false := by simp; omega
          by_cases h64 : num64 s[k] = 64
          · have he4 : ((num64 s[k] : Int) == 64) = true := by simp [h64]
            have hfin := unhide HE2
            rw [from64, if_neg hne, if_neg h65, if_pos h64] at hfin
            have HF := hide hfin
            clear hfin HE2 h65 h64
            generalize num64 s[k] = n at hcell he he4
            go_wp2
            go_step3
            refine ⟨rfl, ⟨k + 1, b, hv, cnt, g, acc, _, _, _, _, _, _, _, _, _, _, _, _, _, _, _, _, _, _, _, _, _, _, _, _, _, _, _, _, _, _, _, _, _, _, _, _, _, _, _, _, _, _, _, _, _, _, _, _, _, rfl, by omega, hb, hhv, by omega, by omega, HF, HB, hg, hI, hbw, hz1⟩, ?_⟩
            simp [intOf]
            omega
          · have he4 : ((num64 s[k] : Int) == 64) = false := by simp; omega
            have hn : num64 s[k] < 64 := by have := num_le s[k]; omega
            have hfin := unhide HE2
            rw [from64, if_neg hne, if_neg h65, if_neg h64] at hfin
            have HF := hide hfin
            obtain ⟨b2, hor, hb2, HB2⟩ : ∃ b2 : Nat, bits .or .u32 ((b : Int) * 64 % 4294967296) (num64 s[k] : Int) = (b2 : Int) ∧ b2 < 4294967296 ∧ Hid (b2 = b * 64 % 4294967296 + num64 s[k]) := ⟨_, orN b (num64 s[k]) hb hn, by omega, hide rfl⟩
            clear hfin HE2 h65 h64
            generalize num64 s[k] = n at hcell he he4 hn HF hor HB2
            rcases hhv with rfl | rfl | rfl | rfl
            · go_wp2
              go_step3
              refine ⟨rfl, ⟨k + 1, b2, 6, cnt, g, acc, _, _, _, _, _, _, _, _, _, _, _, _, _, _, _, _, _, _, _, _, _, _, _, _, _, _, _, _, _, _, _, _, _, _, _, _, _, _, _, _, _, _, _, _, _, _, _, _, _, rfl, by omega, hb2, by omega, by omega, by omega, ?_, HB, hg, hI, hbw, hz1⟩, ?_⟩
              · have h : acc ++ (from64 6 n (s.data.toList.drop (k + 1))).1 = (from64 0 0 s.data.toList).1 ∧ cnt + (from64 6 n (s.data.toList.drop (k + 1))).2 = (from64 0 0 s.data.toList).2 := unhide HF
                have e : b2 % 2 ^ 6 = n := by have := unhide HB2; omega
                rw [← e] at h
                exact hide h
              · simp [intOf]
                omega
            · have hbyte : ((b2 : Int) % 256) = ((UInt8.ofNat ((b % 2 ^ 2 * 64 + n) / 2 ^ (2 - 2))).toNat : Int) := by
                have := unhide HB2
                simp
                omega
              have HY := hide hbyte
              clear hbyte
              go_wp2_with fail
              refine (writeByte_k w.heap.size w.heap.size (Lib.byteCells acc) _ _ hI (by rw [Lib.byteCells_length]; omega) (by omega)).mono ?_
              rintro e w3 ⟨rfl, h3, b3, k3⟩
              rw [byteCells_snoc acc _ _ (unhide HY)] at h3
              have hz3 := b3.size
              have HB3 : Hid (Blk w3 g 102 (arrOf (tab3 64))) := k3 _ _ (unhide HB) (by intro e; cases e; exact hg rfl) (by intro c fz e; cases e)
              clear k3
              go_wp2
              go_step3
              refine ⟨rfl, ⟨k + 1, b2, 0, cnt, g, _, _, _, _, _, _, _, _, _, _, _, _, _, _, _, _, _, _, _, _, _, _, _, _, _, _, _, _, _, _, _, _, _, _, _, _, _, _, _, _, _, _, _, _, _, _, _, _, _, _, rfl, by omega, hb2, by omega, by omega, by simp; omega, ?_, HB3, hg, Or.inr h3, hbw.trans b3, by omega⟩, ?_⟩
              · have h := unhide HF
                rw [if_neg (by omega)] at h
                have e : b2 % 2 ^ (2 - 2) = (b % 2 ^ 2 * 64 + n) % 2 ^ (2 - 2) := by have := unhide HB2; omega
                rw [← e] at h
                exact hide ⟨by simpa using h.1, h.2⟩
              · simp [intOf]
                omega
            · have hbyte : ((b2 : Int) / 4 % 256) = ((UInt8.ofNat ((b % 2 ^ 4 * 64 + n) / 2 ^ (4 - 2))).toNat : Int) := by
                have := unhide HB2
                simp
                omega
              have HY := hide hbyte
              clear hbyte
              go_wp2_with fail
              refine (writeByte_k w.heap.size w.heap.size (Lib.byteCells acc) _ _ hI (by rw [Lib.byteCells_length]; omega) (by omega)).mono ?_
              rintro e w3 ⟨rfl, h3, b3, k3⟩
              rw [byteCells_snoc acc _ _ (unhide HY)] at h3
              have hz3 := b3.size
              have HB3 : Hid (Blk w3 g 102 (arrOf (tab3 64))) := k3 _ _ (unhide HB) (by intro e; cases e; exact hg rfl) (by intro c fz e; cases e)
              clear k3
              go_wp2
              go_step3
              refine ⟨rfl, ⟨k + 1, b2, 2, cnt, g, _, _, _, _, _, _, _, _, _, _, _, _, _, _, _, _, _, _, _, _, _, _, _, _, _, _, _, _, _, _, _, _, _, _, _, _, _, _, _, _, _, _, _, _, _, _, _, _, _, _, rfl, by omega, hb2, by omega, by omega, by simp; omega, ?_, HB3, hg, Or.inr h3, hbw.trans b3, by omega⟩, ?_⟩
              · have h := unhide HF
                rw [if_neg (by omega)] at h
                have e : b2 % 2 ^ (4 - 2) = (b % 2 ^ 4 * 64 + n) % 2 ^ (4 - 2) := by have := unhide HB2; omega
                rw [← e] at h
                exact hide ⟨by simpa using h.1, h.2⟩
              · simp [intOf]
                omega
            · have hbyte : ((b2 : Int) / 16 % 256) = ((UInt8.ofNat ((b % 2 ^ 6 * 64 + n) / 2 ^ (6 - 2))).toNat : Int) := by
                have := unhide HB2
                simp
                omega
              have HY := hide hbyte
              clear hbyte
              go_wp2_with fail
              refine (writeByte_k w.heap.size w.heap.size (Lib.byteCells acc) _ _ hI (by rw [Lib.byteCells_length]; omega) (by omega)).mono ?_
              rintro e w3 ⟨rfl, h3, b3, k3⟩
              rw [byteCells_snoc acc _ _ (unhide HY)] at h3
              have hz3 := b3.size
              have HB3 : Hid (Blk w3 g 102 (arrOf (tab3 64))) := k3 _ _ (unhide HB) (by intro e; cases e; exact hg rfl) (by intro c fz e; cases e)
              clear k3
              go_wp2
              go_step3
              refine ⟨rfl, ⟨k + 1, b2, 4, cnt, g, _, _, _, _, _, _, _, _, _, _, _, _, _, _, _, _, _, _, _, _, _, _, _, _, _, _, _, _, _, _, _, _, _, _, _, _, _, _, _, _, _, _, _, _, _, _, _, _, _, _, rfl, by omega, hb2, by omega, by omega, by simp; omega, ?_, HB3, hg, Or.inr h3, hbw.trans b3, by omega⟩, ?_⟩
              · have h := unhide HF
                rw [if_neg (by omega)] at h
                have e : b2 % 2 ^ (6 - 2) = (b % 2 ^ 6 * 64 + n) % 2 ^ (6 - 2) := by have := unhide HB2; omega
                rw [← e] at h
                exact hide ⟨by simpa using h.1, h.2⟩
              · simp [intOf]
                omega
end Go.Proofs.YtedpimhhbajljaaGreatDoor
