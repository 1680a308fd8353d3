/-
  What Parts of mime tells, over this seat's program: the marks that it leaves by, its frame at its label.
-/
import Derived.Test.YtedpimhhbajljaaGreatDoorBnd1
import Derived.Test.YtedpimhhbajljaaGreatDoorBkw
import Derived.Test.YtedpimhhbajljaaGreatDoorRwg
import Derived.Maps.AppendAt
set_option linter.unusedVariables false
set_option linter.unusedSimpArgs false
namespace Go.Proofs.YtedpimhhbajljaaGreatDoor
open Go.RowKit Go.Proofs.Hed

theorem ptInfo : (Tryz.prog.info? 50).map (fun i => (i.zero, i.size, i.bytes)) = some (some (.agg #[.int .i64 0, .string ByteArray.empty, .string ByteArray.empty, .string ByteArray.empty, .string ByteArray.empty]), 5, 72) := by kernel_rfl
theorem skInfo : (Tryz.prog.info? 77).map (fun i => (i.zero, i.size, i.bytes)) = some (some (.agg #[.int .i64 0, .string ByteArray.empty, .string ByteArray.empty, .string ByteArray.empty, .string ByteArray.empty, .string ByteArray.empty]), 6, 88) := by kernel_rfl

/-- The blocks of the marks that a function leaves by: each holds no call. -/
def MarksAt (B : Nat) (W : World) (ds : List Nat) : Prop := ds.Nodup ∧ ∀ D ∈ ds, B ≤ D ∧ W.heap[D]? = some (.deferred (some []))
def markL (ds : List Nat) : List Deferred := ds.map fun D => { target := .collected D, args := #[] }
theorem leaves_marks {F : Fence} {n : Nat} {P : Program} {fn : Func} {tmps : Array Value} {R : Ending → World → Prop} {B : Nat} (T : World → Prop)
    (hT : ∀ (A : World) (D : Nat) (o o' : Obj), A.heap[D]? = some o → o.isCells = false → B ≤ D → T A → T (A.putObj D o')) (hend : ∀ A, T A → LeavesIn F n P fn tmps R [] .returning A) :
    ∀ (ds : List Nat) (W : World), MarksAt B W ds → T W → LeavesInM F n P fn tmps R (markL ds) .returning W
  | [], W, _, h => hend W h
  | D :: ds, W, ⟨hn, hm⟩, h => by
    obtain ⟨hB, hK⟩ := hm D (by simp)
    refine ⟨by simp, .inl ⟨D, _, rfl, run_takeDeferred hK, leaves_marks T hT hend ds _ ⟨(List.nodup_cons.1 hn).2, fun E hE => ?_⟩ (hT W D _ _ hK rfl hB h)⟩⟩
    obtain ⟨h1, h2⟩ := hm E (by simp [hE])
    exact ⟨h1, (World.putObj_heap_other (fun e => (List.nodup_cons.1 hn).1 (by rw [← e]; exact hE))).trans h2⟩
theorem MarksAt.nil (B : Nat) (W : World) : MarksAt B W [] := ⟨List.nodup_nil, fun D h => by cases h⟩
theorem MarksAt.lt {B : Nat} {W : World} {ds : List Nat} (h : MarksAt B W ds) : ∀ D ∈ ds, D < W.heap.size := fun D hD => (Array.getElem?_eq_some_iff.1 (h.2 D hD).2).1
theorem MarksAt.below {B : Nat} {W W' : World} {ds : List Nat} (h : MarksAt B W ds) (hb : Below W.heap.size W W') : MarksAt B W' ds :=
  ⟨h.1, fun D hD => ⟨(h.2 D hD).1, (hb.block D (h.lt D hD)).trans (h.2 D hD).2⟩⟩
theorem MarksAt.cons {B D : Nat} {W W' : World} {ds : List Nat} (h : MarksAt B W ds) (hd : W.heap.size ≤ D) (hB : B ≤ D) (hD : W'.heap[D]? = some (.deferred (some []))) (hk : ∀ E ∈ ds, W'.heap[E]? = some (.deferred (some []))) : MarksAt B W' (D :: ds) := by
  refine ⟨List.nodup_cons.2 ⟨fun e => by have := h.lt D e; omega, h.1⟩, fun E hE => ?_⟩
  rcases List.mem_cons.1 hE with rfl | hE
  · exact ⟨hB, hD⟩
  · exact ⟨(h.2 E hE).1, hk E hE⟩
theorem own_part {w : World} {C k n m cap : Nat} {e : TypeId} {a : Option Addr} {xs : List Value} (h : w.ownsRow C e k (.slice a n cap) n xs) (hm : m ≤ n) (h0 : 0 < n) : w.ownsRow C e k (.slice a m cap) m (xs.take (m * k)) := by
  obtain ⟨h1, h2⟩ := h
  have hk : m * k ≤ n * k := Nat.mul_le_mul_right k hm
  refine ⟨by rw [List.length_take, h1]; omega, ?_⟩
  rcases h2 with ⟨_, rfl⟩ | ⟨g, cap', cur, hv, hg, hc, hn, hcap, hs, ht⟩
  · omega
  · injection hv with e1 e2 e3
    subst e1 e3
    exact .inr ⟨g, cap, cur, rfl, hg, hc, by omega, hcap, hs, by rw [← ht, List.take_take]; congr 1; omega⟩
theorem skC_len (p : SK) : (skC p).length = 6 := rfl
theorem ptC_len (p : PT) : (ptC p).length = 5 := rfl

def slN : Value → Nat
  | .slice _ n _ => n
  | _ => 0

/-- What the frame of Parts holds at its label. -/
def PtsJ (s : ByteArray) (w : World) (a' : Act) (w' : World) : Prop :=
  ∃ (st : List SK) (acc : List PT) (ds : List Nat) (lv sv : Value) (u5 u6 u7 u8 u9 u10 u11 u12 u13 u14 u15 u16 u17 u18 u19 u20 u21 u22 u23 u24 u25 u26 u27 u28 u29 u30 u31 u32 u33 u34 u35 u36 u37 u38 u39 u40 u41 u42 u43 u44 u45 u46 u47 u48 u49 u50 u51 : Value), a' = { tmps := #[.string s, undef, .slice none 0 0, lv, .pointer (some ⟨w.heap.size + 1, 0, none⟩), u5, u6, u7, u8, u9, u10, u11, u12, u13, u14, u15, u16, u17, u18, u19, u20, u21, u22, u23, u24, u25, u26, u27, u28, u29, u30, u31, u32, u33, u34, u35, u36, u37, u38, u39, u40, u41, u42, u43, u44, u45, u46, u47, u48, u49, u50, u51], defers := markL ds } ∧
    Hid (acc ++ ptsF (256 - acc.length) st = ptsL s) ∧ acc.length ≤ 256 ∧ st.length ≤ 1 + 257 * acc.length ∧ Hid (SkOk s.size st) ∧
    Blk w' (w.heap.size + 1) 78 #[sv] ∧ w'.ownsRow w.heap.size 77 6 sv st.length (flatG skC st.reverse) ∧
    w'.ownsRow w.heap.size 50 5 lv acc.length (flatG ptC acc) ∧ MarksAt w.heap.size w' ds ∧ Below w.heap.size w w'

theorem below_put {B : Nat} {w A : World} (h : Below B w A) (D : Nat) (o' : Obj) (hD : B ≤ D) : Below B w (A.putObj D o') :=
  ⟨h.os, h.tape, h.output, by have := h.size; simpa using this, fun k hk => (World.putObj_heap_other (by omega)).trans (h.block k hk)⟩
/-- A row and a block of another type never lie in one place; nor do two rows. -/
theorem own_apart {W : World} {B k n D : Nat} {e t : TypeId} {v : Value} {xs : List Value} {cs : Array Value} (h : W.ownsRow B e k v n xs) (hb : Blk W D t cs) (ht : t ≠ e) : v.ownBlock ≠ some D := by
  rcases h.2 with ⟨rfl, _⟩ | ⟨g, cap, cur, rfl, _, hc, _⟩
  · simp [Value.ownBlock]
  · intro e'
    simp only [Value.ownBlock, Option.some.injEq] at e'
    subst e'
    unfold Blk at hb
    rw [hb] at hc
    injection hc with hc
    injection hc with _ hc
    exact ht hc
theorem own_apart2 {W : World} {B k n B' k' n' g : Nat} {e e' : TypeId} {v v' : Value} {xs xs' : List Value} (h : W.ownsRow B e k v n xs) (h' : W.ownsRow B' e' k' v' n' xs') (he : e ≠ e') (hg : v'.ownBlock = some g) : v.ownBlock ≠ some g := by
  rcases h'.2 with ⟨rfl, _⟩ | ⟨g', cap, cur, rfl, _, hc, _⟩
  · simp [Value.ownBlock] at hg
  · simp only [Value.ownBlock, Option.some.injEq] at hg
    subst hg
    exact own_apart h hc (fun e => he e.symm)
theorem own_keepK {W W' : World} {B k n B' k' n' : Nat} {e e' : TypeId} {v v' : Value} {xs xs' : List Value} (h : W.ownsRow B e k v n xs) (h' : W.ownsRow B' e' k' v' n' xs') (he : e ≠ e') (hg : W.grownBy W' v'.ownBlock) : W'.ownsRow B e k v n xs := by
  cases hv : v'.ownBlock with
  | none => rw [hv] at hg; exact h.kept hg (by cases hw : v.ownBlock <;> simp)
  | some g => rw [hv] at hg; exact h.kept hg (.inr (own_apart2 h h' he hv))
theorem blk_keep {W W' : World} {B k n D : Nat} {e t : TypeId} {v : Value} {xs : List Value} {cs : Array Value} (hb : Blk W D t cs) (h : W.ownsRow B e k v n xs) (ht : t ≠ e) (hg : W.grownBy W' v.ownBlock) : Blk W' D t cs := by
  unfold Blk
  rw [hg.block D hb.lt (fun e' => own_apart h hb ht e'.symm)]
  exact hb
theorem MarksAt.grown {B : Nat} {W W' : World} {ds : List Nat} {row : Option Nat} (h : MarksAt B W ds) (hg : W.grownBy W' row) (hr : ∀ r, row = some r → ∃ o : Obj, W.heap[r]? = some o ∧ o.isCells = true) : MarksAt B W' ds :=
  ⟨h.1, fun D hD => ⟨(h.2 D hD).1, by
    rw [hg.block D (h.lt D hD) (fun e => by
      obtain ⟨o, h1, h2⟩ := hr D e.symm
      rw [(h.2 D hD).2] at h1
      cases h1
      cases h2)]
    exact (h.2 D hD).2⟩⟩
theorem own_isCells {W : World} {B k n : Nat} {e : TypeId} {v : Value} {xs : List Value} (h : W.ownsRow B e k v n xs) : ∀ r, v.ownBlock = some r → ∃ o : Obj, W.heap[r]? = some o ∧ o.isCells = true := by
  intro r hr
  rcases h.2 with ⟨rfl, _⟩ | ⟨g', cap, cur, rfl, _, hc, _⟩
  · simp [Value.ownBlock] at hr
  · simp only [Value.ownBlock, Option.some.injEq] at hr
    subst hr
    exact ⟨_, hc, rfl⟩
theorem own_under {W W' : World} {B k n p : Nat} {e : TypeId} {v : Value} {xs : List Value} (h : W.ownsRow B e k v n xs) (hb : Below p W W') (hlt : ∀ g, v.ownBlock = some g → g < p) : W'.ownsRow B e k v n xs := by
  refine ⟨h.1, ?_⟩
  rcases h.2 with h0 | ⟨g, cap, cur, rfl, h1, hc, h2⟩
  · exact .inl h0
  · exact .inr ⟨g, cap, cur, rfl, h1, (hb.block g (hlt g rfl)).trans hc, h2⟩
theorem MarksAt.under {B p : Nat} {W W' : World} {ds : List Nat} (h : MarksAt B W ds) (hb : Below p W W') (hlt : ∀ D ∈ ds, D < p) : MarksAt B W' ds :=
  ⟨h.1, fun D hD => ⟨(h.2 D hD).1, (hb.block D (hlt D hD)).trans (h.2 D hD).2⟩⟩
theorem blk_under {W W' : World} {D p : Nat} {t : TypeId} {cs : Array Value} (h : Blk W D t cs) (hb : Below p W W') (hlt : D < p) : Blk W' D t cs := (hb.block D hlt).trans h
theorem blk_isCells {W : World} {D : Nat} {t : TypeId} {cs : Array Value} (h : Blk W D t cs) : ∀ r, some D = some r → ∃ o : Obj, W.heap[r]? = some o ∧ o.isCells = true := fun r e => by cases e; exact ⟨_, h, rfl⟩
/-- What abides where a block that is no cells is written. -/
def OthR (W : World) (row : Option Nat) : Prop := ∀ r, row = some r → ∃ o : Obj, W.heap[r]? = some o ∧ o.isCells = false
theorem blk_from {W W' : World} {D : Nat} {t : TypeId} {cs : Array Value} {row : Option Nat} (h : Blk W D t cs) (hg : W.grownBy W' row) (hr : OthR W row) : Blk W' D t cs := by
  unfold Blk
  rw [hg.block D h.lt (fun e => by
    obtain ⟨o, h1, h2⟩ := hr D e.symm
    rw [show W.heap[D]? = _ from h] at h1
    cases h1
    cases h2)]
  exact h
theorem own_from {W W' : World} {B k n : Nat} {e : TypeId} {v : Value} {xs : List Value} {row : Option Nat} (h : W.ownsRow B e k v n xs) (hg : W.grownBy W' row) (hr : OthR W row) : W'.ownsRow B e k v n xs := by
  refine h.kept hg ?_
  cases hv : v.ownBlock with
  | none => exact .inl rfl
  | some D =>
    refine .inr (fun e => ?_)
    obtain ⟨o, h1, h2⟩ := hr D e.symm
    obtain ⟨o', h3, h4⟩ := own_isCells h D hv
    rw [h1] at h3
    cases h3
    rw [h2] at h4
    cases h4
theorem MarksAt.from {B C : Nat} {W W' : World} {ds : List Nat} {row : Option Nat} (h : MarksAt B W ds) (hC : ∀ D ∈ ds, D < C) (hg : W.grownBy W' row) (hr : ∀ r, row = some r → C ≤ r) : MarksAt B W' ds :=
  ⟨h.1, fun D hD => ⟨(h.2 D hD).1, (hg.block D (h.lt D hD) (fun e => by have := hr D e.symm; have := hC D hD; omega)).trans (h.2 D hD).2⟩⟩

/-- One thing more on a stack that a box holds: what append does, and the store behind it. -/
theorem push_any (W : World) (B bx n : Nat) (sv : Value) (xs : List Value) (y : SK) (hbx : Blk W bx 78 #[sv]) (hrow : W.ownsRow B 77 6 sv n xs) (hn : n ≤ 1000000) (hB : B ≤ W.heap.size) (ty : TypeId) :
    ∃ a' c' W1, (Builtin.append_ #[78, 78] ty #[sv, .slice (some ⟨W.heap.size, 0, none⟩) 1 1]).run Tryz.prog (W.alloc (.cells #[.int .i64 y.1, .string ⟨#[]⟩, .string ⟨#[]⟩, .string ⟨#[]⟩, .string ⟨#[]⟩, .string y.2] 77)) = .ok (.slice a' (n + 1) c') W1 ∧
      Blk W1 bx 78 #[sv] ∧ Blk (W1.setCell ⟨bx, 0, none⟩ (.slice a' (n + 1) c')) bx 78 #[.slice a' (n + 1) c'] ∧ (W1.setCell ⟨bx, 0, none⟩ (.slice a' (n + 1) c')).ownsRow B 77 6 (.slice a' (n + 1) c') (n + 1) (xs ++ skC y) ∧
      (∀ (D : Nat) (o : Obj), W.heap[D]? = some o → D ≠ bx → sv.ownBlock ≠ some D → (W1.setCell ⟨bx, 0, none⟩ (.slice a' (n + 1) c')).heap[D]? = some o) ∧ W.heap.size ≤ (W1.setCell ⟨bx, 0, none⟩ (.slice a' (n + 1) c')).heap.size ∧
      (∀ n0, n0 ≤ B → n0 ≤ bx → Below n0 W (W1.setCell ⟨bx, 0, none⟩ (.slice a' (n + 1) c'))) ∧ ((Value.slice a' (n + 1) c').ownBlock = sv.ownBlock ∨ (Value.slice a' (n + 1) c').ownBlock = some (W.heap.size + 1)) := by
  obtain ⟨i0, hi, hq0, hq1, hq2⟩ := info_parts skInfo
  have hA : Below W.heap.size W (W.alloc (.cells #[.int .i64 y.1, .string ⟨#[]⟩, .string ⟨#[]⟩, .string ⟨#[]⟩, .string ⟨#[]⟩, .string y.2] 77)) := (Below.refl _ _).alloc (Nat.le_refl _) _
  have hzA := World.size_alloc W (.cells #[.int .i64 y.1, .string ⟨#[]⟩, .string ⟨#[]⟩, .string ⟨#[]⟩, .string ⟨#[]⟩, .string y.2] 77)
  have hnew := new_cells W 77 #[.int .i64 y.1, .string ⟨#[]⟩, .string ⟨#[]⟩, .string ⟨#[]⟩, .string ⟨#[]⟩, .string y.2] W.heap.size rfl
  have hbA := hbx.below hA
  have hrA := own_below hrow hA
  generalize W.alloc (.cells #[.int .i64 y.1, .string ⟨#[]⟩, .string ⟨#[]⟩, .string ⟨#[]⟩, .string ⟨#[]⟩, .string y.2] 77) = A at hA hzA hnew hbA hrA ⊢
  obtain ⟨v', W1, hrun, h2, h3, h4, h5⟩ := run_append_own_at (P := Tryz.prog) (w := A) B 78 ty 77 i0 (.agg #[.int .i64 0, .string ByteArray.empty, .string ByteArray.empty, .string ByteArray.empty, .string ByteArray.empty, .string ByteArray.empty]) 6 88 Tryz.underlying78 hi hq0 hq1 hq2 rfl (by decide) sv n xs hrA ⟨W.heap.size, 0, none⟩ 1 1 (skC y) rfl (fun j u hj => hnew j u hj) (by intro u hu; simp [skC] at hu; rcases hu with rfl | rfl | rfl <;> rfl) (by unfold maxLen; omega) (by omega) (by omega)
  obtain ⟨a', c', hv⟩ := own_formH h2
  subst hv
  have hb1 := blk_keep hbA hrA (by decide) h3
  have hg4 := grownBy_setCell' W1 bx (.slice a' (n + 1) c')
  have hb2 := hb1.set 0 (.slice a' (n + 1) c')
  have hr2 := h2.kept hg4 (.inr (own_apart h2 hb1 (by decide)))
  have hsz3 := h3.size
  have hsz4 := hg4.size
  refine ⟨a', c', W1, hrun, hb1, hb2, hr2, ?_, by omega, ?_, ?_⟩
  · intro D o hD hne hnr
    have hlt := (Array.getElem?_eq_some_iff.1 hD).1
    rw [hg4.block D (by omega) (fun e => hne (Option.some.inj e)), h3.block D (by omega) (fun e => hnr e.symm), hA.block D hlt]
    exact hD
  · intro n0 h0 h1
    have b1 : Below n0 W A := hA.mono (by omega)
    exact (b1.grown h3 (by omega) (fun k e => by have := (hrA.lt k e).1; omega)).grown hg4 (by omega) (fun k e => by cases e; omega)
  · rw [hzA] at h5
    exact h5
theorem wpListIn_append_runM {F : Fence} {n : Nat} {P : Program} {w w' : World} {v v' xv : Value} {ty : TypeId} {ops : Array Oper} {rest : List Oper} {o : Oper} {a : Act} {Q : Exit → Act → World → Prop} (hg : o.guard = none) (s x : Operand) (t : TypeId)
    (ho : o.op = .call { callee := .builtin .append, args := #[s, x], argTypes := #[t, t] }) (hty : o.type = ty) (hs : a.eval s = v) (hx : a.eval x = xv)
    (hrun : (Builtin.append_ #[t, t] ty #[v, xv]).run P w = .ok v' w')
    (h : wpListIn F n P ops Q rest (a.put o.dst v') w') : wpListIn F n P ops Q (o :: rest) a w := by
  refine wpListIn_plain hg fun K hK => ?_
  subst hty
  unfold Oper.wpIn
  refine ⟨by simp [Oper.about, ho, resolve, Target.leads, Sem.run_pure], ?_⟩
  rw [Oper.semAt_plain F _ _ (by rw [ho]; intro c hc'; cases hc')]
  simp [execOp, ho, resolve, invoke, builtin, hs, hx, hrun, Result.andThen]
  exact hK _ _ h
theorem blk_ne {W : World} {D D' : Nat} {t t' : TypeId} {cs cs' : Array Value} (h : Blk W D t cs) (h' : Blk W D' t' cs') (ht : t ≠ t') : D ≠ D' := by
  rintro rfl
  unfold Blk at h h'
  rw [h] at h'
  injection h' with h'
  injection h' with _ h'
  exact ht h'
theorem own_same {W W' : World} {B k n : Nat} {e : TypeId} {v : Value} {xs : List Value} (h : W.ownsRow B e k v n xs) (hs : ∀ (D : Nat) (cur : Array Value), v.ownBlock = some D → Blk W D e cur → Blk W' D e cur) : W'.ownsRow B e k v n xs := by
  refine ⟨h.1, ?_⟩
  rcases h.2 with h0 | ⟨g, cap, cur, rfl, h1, hc, h2⟩
  · exact .inl h0
  · exact .inr ⟨g, cap, cur, rfl, h1, hs g cur rfl hc, h2⟩
theorem MarksAt.same {B : Nat} {W W' : World} {ds : List Nat} (h : MarksAt B W ds) (hs : ∀ (D : Nat) (o : Obj), W.heap[D]? = some o → o.isCells = false → W'.heap[D]? = some o) : MarksAt B W' ds :=
  ⟨h.1, fun D hD => ⟨(h.2 D hD).1, hs D _ (h.2 D hD).2 rfl⟩⟩
end Go.Proofs.YtedpimhhbajljaaGreatDoor

/-
  What Parts of mime tells, over this seat's program.
-/
set_option linter.unusedVariables false
set_option linter.unusedSimpArgs false
namespace Go.Proofs.YtedpimhhbajljaaGreatDoor
open Go.RowKit Go.Proofs.Hed

attribute [local go_sem] Oper.semAt_some

set_option maxHeartbeats 4000000 in
set_option maxRecDepth 100000 in
theorem parts_any (s : ByteArray) (w : World) (hs : s.size ≤ 4194304) :
    Calls Tryz.prog 22 #[.string s] w fun e w' => ∃ v, e = .returned v ∧ w'.ownsRow w.heap.size 50 5 v (ptsL s).length (flatG ptC (ptsL s)) ∧ Below w.heap.size w w' := by
  refine (callsIn_wide (n := 3)).1 ?_
  refine callsIn_of_wp_marks Tryz.func22 rfl trivial ?_ rfl
  simp only [Tryz.ntmps22, List.size_toArray, List.length_cons, List.length_nil, Nat.reduceAdd, Nat.reduceSub, Array.replicate_succ, Array.replicate_zero, List.push_toArray, List.append_toArray, List.nil_append, List.cons_append]
  refine wpIn_wide.2 ?_
  go_wp2
  refine wp_scope_one 0 (PtsJ s w) (fun a' _ => 256 - (slN (a'.tmps.getD 3 undef))) rfl ?_ ?_
  · intro hp
    go_wp2
    go_step3
    rename_i K hK
    refine hK _ _ (hp _ _ ⟨[(0, s)], [], [], .slice none 0 0, .slice (some ⟨w.heap.size, 0, none⟩) 1 1, _, _, _, _, _, _, _, _, _, _, _, _, _, _, _, _, _, _, _, _, _, _, _, _, _, _, _, _, _, _, _, _, _, _, _, _, _, _, _, _, _, _, _, _, _, _, _, rfl, hide rfl, by simp, by simp, hide (SkOk.one (Nat.le_refl _)), ?_, ?_, ⟨by simp [flatG], Or.inl ⟨rfl, rfl⟩⟩, MarksAt.nil _ _, ?_⟩)
    · have := Blk.new (w.alloc (.cells #[.int .i64 0, .string ⟨#[]⟩, .string ⟨#[]⟩, .string ⟨#[]⟩, .string ⟨#[]⟩, .string s] 77)) 78 #[.slice (some ⟨w.heap.size, 0, none⟩) 1 1]
      rw [World.size_alloc] at this
      exact this
    · refine ⟨rfl, Or.inr ⟨w.heap.size, 1, #[.int .i64 0, .string ⟨#[]⟩, .string ⟨#[]⟩, .string ⟨#[]⟩, .string ⟨#[]⟩, .string s], rfl, Nat.le_refl _, ?_, Nat.le_refl _, by unfold maxLen; omega, rfl, rfl⟩⟩
      exact Blk.below (Blk.new w _ _) ((Below.refl _ _).alloc (Nat.le_refl _) _)
    · exact ((Below.refl _ w).alloc (Nat.le_refl _) _).alloc (by simp) _
  · rintro a' w' ⟨st, acc, ds, lv, sv, u5, u6, u7, u8, u9, u10, u11, u12, u13, u14, u15, u16, u17, u18, u19, u20, u21, u22, u23, u24, u25, u26, u27, u28, u29, u30, u31, u32, u33, u34, u35, u36, u37, u38, u39, u40, u41, u42, u43, u44, u45, u46, u47, u48, u49, u50, u51, rfl, HE, hal, hsl, HOK, hbx, hst, hac, hmk, hB⟩
    have HEND : Hid (∀ l : List PT, acc = l → ∀ tmps : Array Value, tmps.getD 2 undef = lv → LeavesInM Fence.wide 3 Tryz.prog Tryz.f22 tmps (fun e w' => ∃ v, e = .returned v ∧ w'.ownsRow w.heap.size 50 5 v l.length (flatG ptC l) ∧ Below w.heap.size w w') (markL ds) .returning w') := hide (by
      rintro l rfl tmps ht
      refine leaves_marks (B := w.heap.size) (fun A => A.ownsRow w.heap.size 50 5 lv acc.length (flatG ptC acc) ∧ Below w.heap.size w A) ?_ ?_ ds w' hmk ⟨hac, hB⟩
      · rintro A D o o' h1 h2 h3 ⟨h4, h5⟩
        exact ⟨ownsRow_putObj h4 _ h1 h2, below_put h5 D o' h3⟩
      · rintro A ⟨h4, h5⟩
        exact ⟨lv, by rw [results_tmp rfl, ht], lv, rfl, h4, h5⟩)
    obtain ⟨n, hn⟩ : ∃ n, st.length = n := ⟨_, rfl⟩
    obtain ⟨m, hm⟩ : ∃ m, acc.length = m := ⟨_, rfl⟩
    rw [hn] at hst hsl
    rw [hm] at hac hal hsl HE
    obtain ⟨la, lc, hlv⟩ := own_formH hac
    obtain ⟨sa, sc, hsv⟩ := own_formH hst
    subst hlv hsv
    have hbc := hbx.cell 0
    simp only [List.getElem?_toArray, List.getElem?_cons_zero] at hbc
    have HX := hide hn
    have HY := hide hm
    by_cases h0 : st = []
    · have HF := hide (show acc = ptsL s by rw [← unhide HE, h0, ptsF_nil, List.append_nil])
      have hb0 : ((n : Int) == 0) = true := by rw [← hn, h0]; rfl
      clear h0 hn hst hac hsl hal HE HX HY HOK hm
      go_wp2
      simp only [Exit.jump]
      exact unhide HEND _ (unhide HF) _ rfl
    · by_cases h1 : m = 256
      · have HF := hide (show acc = ptsL s by rw [← unhide HE, h1]; simp [ptsF])
        have hb0 : ((n : Int) == 0) = false := by
          have : n ≠ 0 := by rw [← hn]; simpa using h0
          simp; omega
        have hb1 : ((m : Int) == 256) = true := by rw [h1]; rfl
        clear h0 hn hst hac hsl hal HE HX HY HOK hm h1
        go_wp2
        simp only [Exit.jump]
        exact unhide HEND _ (unhide HF) _ rfl
      · obtain ⟨⟨pl, tx⟩, st', rfl⟩ : ∃ p st', st = p :: st' := by
          cases st with
          | nil => exact absurd rfl h0
          | cons a b => exact ⟨a, b, rfl⟩
        obtain ⟨k, hk⟩ : ∃ k, st'.length = k := ⟨_, rfl⟩
        have hnk : n = k + 1 := by rw [← hn, List.length_cons, hk]
        have hb0 : ((n : Int) == 0) = false := by simp; omega
        have hbm : ((m : Int) == 256) = false := by simp; omega
        have hpok := unhide HOK (pl, tx) (by simp)
        simp only at hpok
        rw [List.reverse_cons] at hst
        have hlen : n = (st'.reverse ++ [(pl, tx)]).length := by simp [hk, hnk]
        have hst1 := hst
        rw [show w'.ownsRow w.heap.size 77 6 (.slice sa n sc) n = w'.ownsRow w.heap.size 77 6 (.slice sa n sc) (st'.reverse ++ [(pl, tx)]).length by rw [← hlen]] at hst1
        obtain ⟨g, cap, hg, hgB, hgl, hcs, hfz⟩ := ownG_at skC_len hst1 (j := k) (by simp [hk])
        injection hg with e1 e2 e3
        subst e1 e3
        have hget : (st'.reverse ++ [(pl, tx)])[k]'(by simp [hk]) = (pl, tx) := by
          rw [List.getElem_append_right (by simp [hk])]
          simp
        rw [hget] at hcs
        have c0 := hcs 0 (by decide)
        have c1 := hcs 1 (by decide)
        have c2 := hcs 2 (by decide)
        have c3 := hcs 3 (by decide)
        have c4 := hcs 4 (by decide)
        have c5 := hcs 5 (by decide)
        simp only [skC, List.getElem?_cons_zero, List.getElem?_cons_succ, Nat.add_zero] at c0 c1 c2 c3 c4 c5
        have hkn : k = n - 1 := by omega
        rw [hkn] at c0 c1 c2 c3 c4 c5
        have HOWN := hide hst
        have HNK := hide hnk
        have HLEN := hide hlen
        have HCS := hide hcs
        have hncap : n ≤ sc := by
          obtain ⟨_, _, h, h'⟩ := own_sliceG hst
          injection h with _ _ h
          omega
        have HKN := hide hkn
        have HKL := hide hk
        have HM : Hid (m < 256) := hide (by omega)
        have hn1 : 1 ≤ n := by omega
        have hn1i : (1 : Int) ≤ (n : Int) := by omega
        clear hst hst1 hcs hget hlen hnk hn hk hm h0 h1 e2 hkn
        have hP := Blk.new w' 77 #[.int .i64 pl, .string ⟨#[]⟩, .string ⟨#[]⟩, .string ⟨#[]⟩, .string ⟨#[]⟩, .string tx]
        have hb1 : Below w'.heap.size w' (w'.alloc (.cells #[.int .i64 pl, .string ⟨#[]⟩, .string ⟨#[]⟩, .string ⟨#[]⟩, .string ⟨#[]⟩, .string tx] 77)) := (Below.refl _ _).alloc (Nat.le_refl _) _
        have hz1 : (w'.alloc (.cells #[.int .i64 pl, .string ⟨#[]⟩, .string ⟨#[]⟩, .string ⟨#[]⟩, .string ⟨#[]⟩, .string tx] 77)).heap.size = w'.heap.size + 1 := World.size_alloc _ _
        have hbx1 := hbx.below hb1
        go_upto_region 6 with (fail)
        generalize (w'.alloc (.cells #[.int .i64 pl, .string ⟨#[]⟩, .string ⟨#[]⟩, .string ⟨#[]⟩, .string ⟨#[]⟩, .string tx] 77)) = W1 at hP hb1 hz1 hbx1 ⊢
        have hbc1 := hbx1.cell 0
        simp only [List.getElem?_toArray, List.getElem?_cons_zero] at hbc1
        have hbf1 := hbx1.frozen 0
        have hne1 : ¬ w'.heap.size = w.heap.size + 1 := by have := hbx.lt; omega
        clear hbc c0 c1 c2 c3 c4 c5
        go_upto_region 7 with (fail)
        have hbx2 := hbx1.set 0 (.slice (some ⟨g, 0, none⟩) (n - 1) sc)
        have hP2 := hP.other (a := ⟨w.heap.size + 1, 0, none⟩) hne1 (.slice (some ⟨g, 0, none⟩) (n - 1) sc)
        have hz2 : (W1.setCell ⟨w.heap.size + 1, 0, none⟩ (.slice (some ⟨g, 0, none⟩) (n - 1) sc)).heap.size = w'.heap.size + 1 := by rw [← hz1]; simp
        have hg2 : W1.grownBy (W1.setCell ⟨w.heap.size + 1, 0, none⟩ (.slice (some ⟨g, 0, none⟩) (n - 1) sc)) (some (w.heap.size + 1)) := grownBy_setCell' _ _ _
        have hown1 := own_below (unhide HOWN) hb1
        have hac1 := own_below hac hb1
        have hown2 := hown1.kept hg2 (.inr (own_apart hown1 hbx1 (by decide)))
        have hac2 := hac1.kept hg2 (.inr (own_apart hac1 hbx1 (by decide)))
        have hmk2 := (hmk.below hb1).grown hg2 (blk_isCells hbx1)
        have hB2 : Below w.heap.size w (W1.setCell ⟨w.heap.size + 1, 0, none⟩ (.slice (some ⟨g, 0, none⟩) (n - 1) sc)) := (hB.trans (hb1.mono hB.size)).grown hg2 (by have := hB.size; omega) (fun k e => by cases e; omega)
        generalize W1.setCell ⟨w.heap.size + 1, 0, none⟩ (.slice (some ⟨g, 0, none⟩) (n - 1) sc) = W2 at hbx2 hP2 hz2 hg2 hown2 hac2 hmk2 hB2 ⊢
        have HRD := hide (readM_any w'.heap.size pl ⟨#[]⟩ ⟨#[]⟩ ⟨#[]⟩ ⟨#[]⟩ tx W2 hP2 (by omega))
        clear hbx1 hP hbc1 hbf1 hg2
        go_wp2_with fail
        refine (unhide HRD).mono ?_
        rintro e W3 ⟨v3, rfl, hkids, hk257, hP3, hb3⟩
        have hz3 := hb3.size
        have hP3lt := hP3.lt
        have hbx3 := blk_under hbx2 hb3 hbx.lt
        have hown3 := own_under hown2 hb3 (fun g' e => ((unhide HOWN).lt g' e).2)
        have hac3 := own_under hac2 hb3 (fun g' e => (hac.lt g' e).2)
        have hmk3 := hmk2.under hb3 hmk.lt
        have hB3 := hB2.trans (hb3.mono hB.size)
        obtain ⟨ka, kc, hkv⟩ := own_formH hkids
        have HPT : Hid (ptC (ptOf (pl, tx)) = [.int .i64 pl, .string (rdT tx.data.toList), .string (rdC tx.data.toList), .string (rdD tx.data.toList), .string (if (rdK pl tx).length = 0 then rdY tx else ⟨#[]⟩)]) := hide rfl
        generalize rdT tx.data.toList = y1 at hP3 HPT
        generalize rdC tx.data.toList = y2 at hP3 HPT
        generalize rdD tx.data.toList = y3 at hP3 HPT
        generalize (if (rdK pl tx).length = 0 then rdY tx else { data := #[] }) = y4 at hP3 HPT
        have d0 := hP3.cell 0
        have d1 := hP3.cell 1
        have d2 := hP3.cell 2
        have d3 := hP3.cell 3
        have d4 := hP3.cell 4
        simp only [List.getElem?_toArray, List.getElem?_cons_succ, List.getElem?_cons_zero] at d0 d1 d2 d3 d4
        have HKID := hide hkids
        have HK257 := hide hk257
        obtain ⟨kn, hkn⟩ : ∃ kn, (rdK pl tx).length = kn := ⟨_, rfl⟩
        rw [hkn] at hkv
        subst hkv
        have HKNN := hide hkn
        have HST := hide hown3
        have HMK := hide hmk3
        have HBX := hide hbx3
        have HP3 := hide hP3
        have HB3 := hide hB3
        have hB3s := hB3.size
        clear hkids hk257 hkn hbx2 hP2 hown2 hac2 hmk2 hB2 hown1 hac1 HRD hown3 hmk3 hbx3 hP3 hB3 hb3
        obtain ⟨i0, hi, hq0, hq1, hq2⟩ := info_parts ptInfo
        go_wp2_with (at_builtin; refine wpList_append_own _ rfl _ _ 45 rfl w.heap.size 50 i0 (.agg #[.int .i64 0, .string ByteArray.empty, .string ByteArray.empty, .string ByteArray.empty, .string ByteArray.empty]) 5 72 Tryz.underlying45 hi hq0 hq1 hq2 rfl (by decide) _ _ _ rfl (hac3.alloc _) ⟨W3.heap.size, 0, none⟩ 1 1 [.int .i64 pl, .string y1, .string y2, .string y3, .string y4] rfl rfl ?c1 ?c2 ?c3 ?c4 ?c5 ?_)
        case c1 =>
          intro j u hj
          rw [Addr.add_lit, Nat.zero_add]
          rw [(Blk.new W3 50 #[.int .i64 pl, .string y1, .string y2, .string y3, .string y4]).cell j]
          simpa using hj
        case c2 => intro u hu; simp at hu; rcases hu with rfl | rfl | rfl | rfl | rfl <;> rfl
        case c3 => unfold maxLen; omega
        case c4 => omega
        case c5 => simp; omega
        intro v4 W4 hac4 hgrow _
        have bA : Below W3.heap.size W3 (W3.alloc (.cells #[.int .i64 pl, .string y1, .string y2, .string y3, .string y4] 50)) := (Below.refl _ _).alloc (Nat.le_refl _) _
        have hacA := own_below hac3 bA
        have hzA : (W3.alloc (.cells #[.int .i64 pl, .string y1, .string y2, .string y3, .string y4] 50)).heap.size = W3.heap.size + 1 := World.size_alloc _ _
        have hz4 := hgrow.size
        rw [hzA] at hz4
        have hown4 := own_keepK (own_below (unhide HST) bA) hacA (by decide) hgrow
        have hkid4 := own_keepK (own_below (unhide HKID) bA) hacA (by decide) hgrow
        have hbx4 := blk_keep ((unhide HBX).below bA) hacA (by decide) hgrow
        have hP4 := blk_keep ((unhide HP3).below bA) hacA (by decide) hgrow
        have hmk4 := ((unhide HMK).below bA).grown hgrow (own_isCells hacA)
        have hB4 := below_own ((unhide HB3).trans (bA.mono hB3s)) hacA hgrow (by omega)
        obtain ⟨l4, c4, hv4⟩ := own_formH hac4
        subst hv4
        have b5 : Below W4.heap.size W4 (W4.alloc (.cells #[.slice ka kn kc] 43)) := (Below.refl _ _).alloc (Nat.le_refl _) _
        have hown5 := own_below hown4 b5
        have hac5 := own_below hac4 b5
        have hkid5 := own_below hkid4 b5
        have hbx5 := hbx4.below b5
        have hP5 := hP4.below b5
        have hmk5 := hmk4.below b5
        have hB5 := hB4.trans (b5.mono (by omega))
        have hK5 := Blk.new W4 43 #[.slice ka kn kc]
        have hz5 : (W4.alloc (.cells #[.slice ka kn kc] 43)).heap.size = W4.heap.size + 1 := World.size_alloc _ _
        clear bA hacA hzA hown4 hkid4 hbx4 hP4 hmk4 hB4 hac4 hgrow b5 HST HKID HBX HP3 HMK HB3 hac3 d0 d1 d2 d3 d4
        go_wp2_with fail
        refine (callsIn_wide.1 (backward_in Fence.wide 3 trivial rfl _ _ _ _)).mono ?_
        rintro e _ ⟨rfl, rfl⟩
        generalize W4.alloc (.cells #[.slice ka kn kc] 43) = W5 at hown5 hac5 hkid5 hbx5 hP5 hmk5 hB5 hK5 hz5 ⊢
        go_wp2
        have hown6 := own_part hown5 (show n - 1 ≤ n by omega) (by omega)
        have htk : (flatG skC (st'.reverse ++ [(pl, tx)])).take ((n - 1) * 6) = flatG skC st'.reverse := by
          rw [← flatG_take skC_len, ← unhide HKN]
          congr 1
          rw [List.take_append_of_le_length (by rw [List.length_reverse]; exact Nat.le_of_eq (unhide HKL).symm)]
          exact List.take_of_length_le (by rw [List.length_reverse]; exact Nat.le_of_eq (unhide HKL))
        rw [htk] at hown6
        clear htk hown5
        obtain ⟨zs, hzs⟩ : ∃ zs : List ByteArray, zs = (rdK pl tx).map fun q => (rdY tx).extract q.1 q.2 := ⟨_, rfl⟩
        have hzl : zs.length = (rdK pl tx).length := by rw [hzs, List.length_map]
        have hzk : zs.length ≤ 257 := by rw [hzl]; exact unhide HK257
        have hKO : kidsO (pl, tx) = zs.map (fun t => (pl + 1, t)) := by
          rw [hzs, List.map_map]
          rfl
        obtain ⟨b, hI, hbK⟩ : ∃ b, ((Value.slice ka kn kc = .slice none 0 0 ∧ zs = []) ∨ ∃ off cap, Value.slice ka kn kc = .slice (some ⟨b, off, none⟩) zs.length cap ∧ b < W5.heap.size ∧ ∀ j, j < zs.length → W5.cell? ⟨b, off + j, none⟩ = some (.string (zs[j]?.getD ⟨#[]⟩))) ∧ (b = W4.heap.size ∨ (Value.slice ka kn kc).ownBlock = some b) := by
          rcases hkid5.2 with ⟨h1, h2⟩ | ⟨g', cap', cur, h1, _, h3, _⟩
          · exact ⟨W4.heap.size, .inl ⟨h1, List.eq_nil_of_length_eq_zero (by omega)⟩, .inl rfl⟩
          · have hcc := hkid5.cells (g := g') (by rw [h1]; rfl)
            refine ⟨g', .inr ⟨0, cap', by rw [h1, hzl], (Array.getElem?_eq_some_iff.1 h3).1, fun j hj => ?_⟩, .inr (by rw [h1]; rfl)⟩
            have := hcc j (.string (zs[j]?.getD ⟨#[]⟩)) (by
              rw [hzs]
              rw [hzl] at hj
              rw [List.getElem?_map, List.getElem?_map, List.getElem?_eq_getElem hj]
              rfl)
            rw [add_off0] at this
            exact this
        have hlt4 : W4.heap.size < W5.heap.size := by omega
        have hblt : b < W5.heap.size := by
          rcases hbK with rfl | e
          · exact hlt4
          · exact (hkid5.lt b e).2
        have hK5c := hK5.cell 0
        simp only [List.getElem?_toArray, List.getElem?_cons_zero] at hK5c
        have hSTOP := backward_stops Fence.wide 2 trivial rfl (by omega) W4.heap.size b _ zs (by omega) W5 hlt4 hK5c hI
        have hmlt := hmk5.lt
        have hPlt := hP5.lt
        have hbxlt := hbx5.lt
        have hw5 : w.heap.size ≤ W5.heap.size := by omega
        have hpl1 : wrap64 (pl + 1) = pl + 1 := by unfold wrap64; omega
        have hI0 : (∃ sv, Blk W5 (w.heap.size + 1) 78 #[sv] ∧ W5.ownsRow w.heap.size 77 6 sv (n - 1 + 0) (flatG skC (st'.reverse ++ [])) ∧ sv.ownBlock ≠ some w'.heap.size) := ⟨_, hbx5, by rw [List.append_nil]; exact hown6, by
          intro e
          have e := Option.some.inj e
          simp only at e
          omega⟩
        generalize Value.slice (some ⟨g, 0, none⟩) n sc = q1
        generalize Value.int .i64 (n : Int) = q2
        generalize Value.int .i64 ((n : Int) - 1) = q3
        generalize Value.pointer (some ⟨g, (n - 1) * 6, none⟩) = q4
        generalize Value.agg #[.int .i64 pl, .string ⟨#[]⟩, .string ⟨#[]⟩, .string ⟨#[]⟩, .string ⟨#[]⟩, .string tx] = q5
        generalize Value.slice (some ⟨g, 0, none⟩) (n - 1) sc = q6
        generalize Value.slice la m lc = q7
        generalize Value.int .i64 (m : Int) = q8
        generalize Value.agg #[.int .i64 pl, .string y1, .string y2, .string y3, .string y4] = q9
        generalize Value.slice (some ⟨W3.heap.size, 0, none⟩) 1 1 = q10
        refine (wpIn_wide (n := 3)).1 ?_
        refine wpIn_rangeFunc_ownG (w0 := W5) rfl (by omega) (gf := 70) (lb := #[.pointer (some ⟨W4.heap.size, 0, none⟩)]) rfl trivial (enters_of Tryz.func70 (by kernel_rfl) rfl) hSTOP
          (fun h k => K2.trans h k) (fun W l o o' hl _ _ _ => ⟨World.putObj_heap_other (by omega), World.putObj_heap_other (by omega)⟩) (Below.refl _ _) (fun _ => rfl)
          (fun pre W => (∃ sv, Blk W (w.heap.size + 1) 78 #[sv] ∧ W.ownsRow w.heap.size 77 6 sv (n - 1 + pre.length) (flatG skC (st'.reverse ++ pre.map (fun x => (pl + 1, x.2)))) ∧ sv.ownBlock ≠ some w'.heap.size) ∧ Blk W w'.heap.size 77 #[.int .i64 pl, .string y1, .string y2, .string y3, .string y4, .string tx] ∧
            W.ownsRow w.heap.size 50 5 (.slice l4 (m + 1) c4) (m + 1) (flatG ptC acc ++ [.int .i64 pl, .string y1, .string y2, .string y3, .string y4]) ∧ MarksAt w.heap.size W ds ∧ Below w.heap.size w W ∧ Blk W W4.heap.size 43 #[.slice ka kn kc] ∧ W.ownsRow W2.heap.size 9 1 (.slice ka kn kc) (rdK pl tx).length ((rdK pl tx).map (cutV (rdY tx))) ∧ W5.heap.size ≤ W.heap.size)
          (fun _ _ _ => False) ?own (fun _ _ _ _ _ h _ _ => h) ⟨hI0, hP5, hac5, hmk5, hB5, hK5, hkid5, Nat.le_refl _⟩
          (fun x => { tmps := #[.string s, undef, .slice none 0 0, .slice l4 (m + 1) c4, .pointer (some ⟨w.heap.size + 1, 0, none⟩), .pointer (some ⟨w'.heap.size, 0, none⟩), Value.slice ka kn kc, u7, .string x.2, u9, u10, u11, q1, q2, .bool false, .bool false, q7, q8, .bool false, .bool false, u20, q1, q1, q2, q3, q4, q5, q1, q1, q2, q3, q6, Value.slice ka kn kc, q7, .pointer (some ⟨w'.heap.size, 0, none⟩), q9, q10, .slice l4 (m + 1) c4, Value.slice ka kn kc, .func (.func 70) #[] #[.pointer (some ⟨W4.heap.size, 0, none⟩)], .int .i64 x.1, .string x.2, u42, u43, u44, u45, u46, u47, u48, u49, u50, u51], defers := [] }) ?assign ?body ?done (fun _ _ _ _ _ _ h _ => h.elim)
        case own =>
          rintro pre W W' row ⟨⟨sv, i1, i2, i3⟩, i4, i5, i6, i7, i8, i9, i10⟩ hg hr
          have ho : OthR W row := fun r e => (hr r e).2
          exact ⟨⟨sv, blk_from i1 hg ho, own_from i2 hg ho, i3⟩, blk_from i4 hg ho, own_from i5 hg ho, i6.from hmlt hg (fun r e => (hr r e).1), i7.grown hg (by omega) (fun k e => by have := (hr k e).1; omega), blk_from i8 hg ho, own_from i9 hg ho, Nat.le_trans i10 hg.size⟩
        case assign =>
          intro l x W K hK
          gi_wp2
          exact hK
        case body =>
          rintro l pre x W ⟨⟨sv, i1, i2, i3⟩, i4, i5, i6, i7, i8, i9, i10⟩ hlen
          obtain ⟨a', c', W1, hrun, j1, j2, j3, j4, j5, j6, j7⟩ := push_any W w.heap.size (w.heap.size + 1) (n - 1 + pre.length) sv _ (pl + 1, x.2) i1 i2 (by omega) (by omega) 78
          have hnc : ∀ (k : Nat) (o : Obj), W.heap[k]? = some o → o.isCells = false → (W1.setCell ⟨w.heap.size + 1, 0, none⟩ (.slice a' (n - 1 + pre.length + 1) c')).heap[k]? = some o := fun k o ho hc => j4 k o ho (by
            rintro rfl
            rw [show W.heap[w.heap.size + 1]? = _ from i1] at ho
            cases ho
            cases hc) (fun e => by
            obtain ⟨o', h1, h2⟩ := own_isCells i2 k e
            rw [ho] at h1
            cases h1
            rw [hc] at h2
            cases h2)
          have hbl : ∀ (D : Nat) (t : TypeId) (cs : Array Value), t ≠ 77 → t ≠ 78 → Blk W D t cs → Blk (W1.setCell ⟨w.heap.size + 1, 0, none⟩ (.slice a' (n - 1 + pre.length + 1) c')) D t cs := fun D t cs h1 h2 hb => j4 D _ hb (blk_ne hb i1 h2) (own_apart i2 hb h1)
          have hPB : Blk (W1.setCell ⟨w.heap.size + 1, 0, none⟩ (.slice a' (n - 1 + pre.length + 1) c')) w'.heap.size 77 #[.int .i64 pl, .string y1, .string y2, .string y3, .string y4, .string tx] := j4 _ _ i4 (blk_ne i4 i1 (by decide)) i3
          have hKK : K2 W4.heap.size b W (W1.setCell ⟨w.heap.size + 1, 0, none⟩ (.slice a' (n - 1 + pre.length + 1) c')) := by
            have hB4' : (W1.setCell ⟨w.heap.size + 1, 0, none⟩ (.slice a' (n - 1 + pre.length + 1) c')).heap[W4.heap.size]? = W.heap[W4.heap.size]? := (show _ = some _ from hbl _ _ _ (by decide) (by decide) i8).trans (show W.heap[W4.heap.size]? = some _ from i8).symm
            refine ⟨hB4', ?_⟩
            rcases hbK with rfl | e
            · exact hB4'
            · rcases i9.2 with ⟨h1, _⟩ | ⟨g', cap', cur, h1, _, h3, _⟩
              · rw [h1] at e
                cases e
              · rw [h1] at e
                have e := Option.some.inj e
                simp only at e
                subst e
                exact (show _ = some _ from hbl _ _ _ (by decide) (by decide) h3).trans (show W.heap[g']? = some _ from h3).symm
          have hln : (pre ++ [x]).length = pre.length + 1 := by simp
          have HFIN := hide (show KeepsFrom W5.heap.size W (W1.setCell ⟨w.heap.size + 1, 0, none⟩ (.slice a' (n - 1 + pre.length + 1) c')) ∧ K2 W4.heap.size b W (W1.setCell ⟨w.heap.size + 1, 0, none⟩ (.slice a' (n - 1 + pre.length + 1) c')) ∧
            (∃ sv, Blk (W1.setCell ⟨w.heap.size + 1, 0, none⟩ (.slice a' (n - 1 + pre.length + 1) c')) (w.heap.size + 1) 78 #[sv] ∧ (W1.setCell ⟨w.heap.size + 1, 0, none⟩ (.slice a' (n - 1 + pre.length + 1) c')).ownsRow w.heap.size 77 6 sv (n - 1 + (pre ++ [x]).length) (flatG skC (st'.reverse ++ (pre ++ [x]).map (fun x => (pl + 1, x.2)))) ∧ sv.ownBlock ≠ some w'.heap.size) ∧ Blk (W1.setCell ⟨w.heap.size + 1, 0, none⟩ (.slice a' (n - 1 + pre.length + 1) c')) w'.heap.size 77 #[.int .i64 pl, .string y1, .string y2, .string y3, .string y4, .string tx] ∧
            (W1.setCell ⟨w.heap.size + 1, 0, none⟩ (.slice a' (n - 1 + pre.length + 1) c')).ownsRow w.heap.size 50 5 (.slice l4 (m + 1) c4) (m + 1) (flatG ptC acc ++ [.int .i64 pl, .string y1, .string y2, .string y3, .string y4]) ∧ MarksAt w.heap.size (W1.setCell ⟨w.heap.size + 1, 0, none⟩ (.slice a' (n - 1 + pre.length + 1) c')) ds ∧ Below w.heap.size w (W1.setCell ⟨w.heap.size + 1, 0, none⟩ (.slice a' (n - 1 + pre.length + 1) c')) ∧ Blk (W1.setCell ⟨w.heap.size + 1, 0, none⟩ (.slice a' (n - 1 + pre.length + 1) c')) W4.heap.size 43 #[.slice ka kn kc] ∧ (W1.setCell ⟨w.heap.size + 1, 0, none⟩ (.slice a' (n - 1 + pre.length + 1) c')).ownsRow W2.heap.size 9 1 (.slice ka kn kc) (rdK pl tx).length ((rdK pl tx).map (cutV (rdY tx))) ∧ W5.heap.size ≤ (W1.setCell ⟨w.heap.size + 1, 0, none⟩ (.slice a' (n - 1 + pre.length + 1) c')).heap.size from
            ⟨⟨j5, fun k o _ ho hc => hnc k o ho hc⟩, hKK, ⟨_, j2, by
              rw [hln, ← Nat.add_assoc, List.map_append, ← List.append_assoc, flatG_append, List.map_cons, List.map_nil, flatG_one]
              exact j3, by
              rcases j7 with e | e
              · rw [e]; exact i3
              · rw [e]
                intro e
                have e := Option.some.inj e
                omega⟩, hPB, own_same i5 (fun D cur _ hb => hbl D _ cur (by decide) (by decide) hb), i6.same hnc, i7.trans (j6 _ (Nat.le_refl _) (by omega)), hbl _ _ _ (by decide) (by decide) i8, own_same i9 (fun D cur _ hb => hbl D _ cur (by decide) (by decide) hb), Nat.le_trans i10 j5⟩)
          obtain ⟨sa', sc', hsv'⟩ := own_formH i2
          subst hsv'
          have hcb := i1.cell 0
          have hcl := i4.cell 0
          have hj1 := j1.cell 0
          have hjf := j1.frozen 0
          simp only [List.getElem?_toArray, List.getElem?_cons_succ, List.getElem?_cons_zero] at hcb hcl hj1
          have HRUN := hide hrun
          have hp8 : pl ≤ 8 := by omega
          have hp0 : 0 ≤ pl := by omega
          clear hrun j1 j2 j3 j4 j5 j6 j7 hnc hbl hPB hKK hln i1 i2 i3 i4 i5 i6 i7 i8 i9 hbK hI hzs hzl hKO hlen hI0 hSTOP hK5c
          gi_wp2_with (gi_at_builtin; refine wpListIn_append_runM rfl _ _ 78 rfl rfl rfl rfl (unhide HRUN) ?_)
          have hfin := unhide HFIN
          rw [hz5, hz2] at hfin
          exact hfin
        case done =>
          rintro D ys W hD hS ⟨⟨sv, i1, i2, i3⟩, i4, i5, i6, i7, i8, i9, i10⟩ hK
          have hST : kidsO (pl, tx) ++ st' = zs.map (fun t => (pl + 1, t)) ++ st' := by rw [hKO]
          have hrw : (kidsO (pl, tx) ++ st').reverse = st'.reverse ++ ys.map (fun x => (pl + 1, x.2)) := by
            rw [hKO, List.reverse_append, ← List.map_reverse, ← bkU_all, List.map_map, ← hS]
            rfl
          have hyl : ys.length = zs.length := by rw [hS, bkU_length]
          have hla : (acc ++ [ptOf (pl, tx)]).length = m + 1 := by rw [List.length_append, unhide HY]; rfl
          have hls : (kidsO (pl, tx) ++ st').length = n - 1 + ys.length := by rw [hKO, List.length_append, List.length_map, unhide HKL, unhide HKN, hyl]; omega
          have hEE : (acc ++ [ptOf (pl, tx)]) ++ ptsF (256 - (m + 1)) (kidsO (pl, tx) ++ st') = ptsL s := by
            rw [← unhide HE, List.append_assoc]
            have : 256 - m = (256 - (m + 1)) + 1 := by have := unhide HM; omega
            rw [this]
            rfl
          have hro : W.ownsRow w.heap.size 77 6 sv (kidsO (pl, tx) ++ st').length (flatG skC (kidsO (pl, tx) ++ st').reverse) := by
            rw [hls, hrw]
            exact i2
          have hao : W.ownsRow w.heap.size 50 5 (.slice l4 (m + 1) c4) (acc ++ [ptOf (pl, tx)]).length (flatG ptC (acc ++ [ptOf (pl, tx)])) := by
            rw [hla, flatG_append, flatG_one, unhide HPT]
            exact i5
          have hm' := unhide HM
          have HFIN := hide (show Hid (acc ++ [ptOf (pl, tx)] ++ ptsF (256 - (acc ++ [ptOf (pl, tx)]).length) (kidsO (pl, tx) ++ st') = ptsL s) ∧ (acc ++ [ptOf (pl, tx)]).length ≤ 256 ∧ (kidsO (pl, tx) ++ st').length ≤ 1 + 257 * (acc ++ [ptOf (pl, tx)]).length ∧ Hid (SkOk s.size (kidsO (pl, tx) ++ st')) ∧
            Blk W (w.heap.size + 1) 78 #[sv] ∧ W.ownsRow w.heap.size 77 6 sv (kidsO (pl, tx) ++ st').length (flatG skC (kidsO (pl, tx) ++ st').reverse) ∧
            W.ownsRow w.heap.size 50 5 (.slice l4 (m + 1) c4) (acc ++ [ptOf (pl, tx)]).length (flatG ptC (acc ++ [ptOf (pl, tx)])) ∧ MarksAt w.heap.size W (D :: ds) ∧ Below w.heap.size w W from
            ⟨hide (by rw [hla]; exact hEE), by omega, by omega, hide (unhide HOK).next, i1, hro, hao, hmk5.cons hD (by omega) hK (fun E hE => (i6.2 E hE).2), i7⟩)
          clear hI0 hSTOP hI hK5c hST hrw hyl hla hls hEE hro hao i1 i2 i3 i4 i5 i6 i7 i8 i9 hbK hKO hzl hzk hS
          go_wp2
          go_step3
          refine ⟨rfl, ⟨_, _, D :: ds, .slice l4 (m + 1) c4, sv, _, _, _, _, _, _, _, _, _, _, _, _, _, _, _, _, _, _, _, _, _, _, _, _, _, _, _, _, _, _, _, _, _, _, _, _, _, _, _, _, _, _, _, _, _, _, _, rfl, unhide HFIN⟩, ?_⟩
          show 256 - (m + 1) < 256 - m
          omega
end Go.Proofs.YtedpimhhbajljaaGreatDoor
