/-
  What Parts of mime tells, over this seat's program: the marks that it leaves by, its frame at its label.
-/
import Derived.Test.YtedpimhhbajljaaDoorMmm
import Derived.Test.YtedpimhhbajljaaDoorBkw
import Derived.Test.YtedpimhhbajljaaDoorRwg
import Derived.Maps.AppendAt
set_option linter.unusedVariables false
set_option linter.unusedSimpArgs false
namespace Go.Proofs.YtedpimhhbajljaaDoor
open Go.RowKit Go.Proofs.Hed

theorem ptInfo : (Tryd.prog.info? 26).map (fun i => (i.zero, i.size, i.bytes)) = some (some (.agg #[.int .i64 0, .string ByteArray.empty, .string ByteArray.empty, .string ByteArray.empty, .string ByteArray.empty]), 5, 72) := by kernel_rfl
theorem skInfo : (Tryd.prog.info? 48).map (fun i => (i.zero, i.size, i.bytes)) = some (some (.agg #[.int .i64 0, .string ByteArray.empty, .string ByteArray.empty, .string ByteArray.empty, .string ByteArray.empty, .string ByteArray.empty]), 6, 88) := by kernel_rfl

/-- The blocks of the marks that a function leaves by: each holds no call. -/
def MarksAt (B : Nat) (W : World) (ds : List Nat) : Prop := ds.Nodup ∧ ∀ D ∈ ds, B ≤ D ∧ W.heap[D]? = some (.deferred (some []))
def markL (ds : List Nat) : List Deferred := ds.map fun D => { target := .collected D, args := #[] }
theorem leaves_marks {F : Fence} {n : Nat} {P : Program} {fn : Func} {tmps : Array Value} {R : Ending → World → Prop} {B : Nat} (T : World → Prop)
    (hT : ∀ (A : World) (D : Nat) (o o' : Obj), A.heap[D]? = some o → o.isCells = false → B ≤ D → T A → T (A.putObj D o')) (hend : ∀ A, T A → LeavesIn F n P fn tmps R [] .returning A) :
    ∀ (ds : List Nat) (W : World), MarksAt B W ds → T W → LeavesInM F n P fn tmps R (markL ds) .returning W
  | [], W, _, h => hend W h
  | D :: ds, W, ⟨hn, hm⟩, h => by
    obtain ⟨hB, hK⟩ := hm D (by simp)
    refine ⟨by simp, .inl ⟨D, _, rfl, run_takeDeferred hK, leaves_marks T hT hend ds _ ⟨(List.nodup_cons.1 hn).2, fun E hE => ?_⟩ (hT W D _ _ hK rfl hB h)⟩⟩
    obtain ⟨h1, h2⟩ := hm E (by simp [hE])
    exact ⟨h1, (World.putObj_heap_other (fun e => (List.nodup_cons.1 hn).1 (by rw [← e]; exact hE))).trans h2⟩
theorem MarksAt.nil (B : Nat) (W : World) : MarksAt B W [] := ⟨List.nodup_nil, fun D h => by cases h⟩
theorem MarksAt.lt {B : Nat} {W : World} {ds : List Nat} (h : MarksAt B W ds) : ∀ D ∈ ds, D < W.heap.size := fun D hD => (Array.getElem?_eq_some_iff.1 (h.2 D hD).2).1
theorem MarksAt.below {B : Nat} {W W' : World} {ds : List Nat} (h : MarksAt B W ds) (hb : Below W.heap.size W W') : MarksAt B W' ds :=
  ⟨h.1, fun D hD => ⟨(h.2 D hD).1, (hb.block D (h.lt D hD)).trans (h.2 D hD).2⟩⟩
theorem MarksAt.cons {B D : Nat} {W W' : World} {ds : List Nat} (h : MarksAt B W ds) (hd : W.heap.size ≤ D) (hB : B ≤ D) (hD : W'.heap[D]? = some (.deferred (some []))) (hk : ∀ E ∈ ds, W'.heap[E]? = some (.deferred (some []))) : MarksAt B W' (D :: ds) := by
  refine ⟨List.nodup_cons.2 ⟨fun e => by have := h.lt D e; omega, h.1⟩, fun E hE => ?_⟩
  rcases List.mem_cons.1 hE with rfl | hE
  · exact ⟨hB, hD⟩
  · exact ⟨(h.2 E hE).1, hk E hE⟩
theorem own_part {w : World} {C k n m cap : Nat} {e : TypeId} {a : Option Addr} {xs : List Value} (h : w.ownsRow C e k (.slice a n cap) n xs) (hm : m ≤ n) (h0 : 0 < n) : w.ownsRow C e k (.slice a m cap) m (xs.take (m * k)) := by
  obtain ⟨h1, h2⟩ := h
  have hk : m * k ≤ n * k := Nat.mul_le_mul_right k hm
  refine ⟨by rw [List.length_take, h1]; omega, ?_⟩
  rcases h2 with ⟨_, rfl⟩ | ⟨g, cap', cur, hv, hg, hc, hn, hcap, hs, ht⟩
  · omega
  · injection hv with e1 e2 e3
    subst e1 e3
    exact .inr ⟨g, cap, cur, rfl, hg, hc, by omega, hcap, hs, by rw [← ht, List.take_take]; congr 1; omega⟩
theorem skC_len (p : SK) : (skC p).length = 6 := rfl
theorem ptC_len (p : PT) : (ptC p).length = 5 := rfl

def slN : Value → Nat
  | .slice _ n _ => n
  | _ => 0

/-- What the frame of Parts holds at its label. -/
def PtsJ (s : ByteArray) (w : World) (a' : Act) (w' : World) : Prop :=
  ∃ (st : List SK) (acc : List PT) (ds : List Nat) (lv sv : Value) (u5 u6 u7 u8 u9 u10 u11 u12 u13 u14 u15 u16 u17 u18 u19 u20 u21 u22 u23 u24 u25 u26 u27 u28 u29 u30 u31 u32 u33 u34 u35 u36 u37 u38 u39 u40 u41 u42 u43 u44 u45 u46 u47 u48 u49 u50 u51 : Value), a' = { tmps := #[.string s, undef, .slice none 0 0, lv, .pointer (some ⟨w.heap.size + 1, 0, none⟩), u5, u6, u7, u8, u9, u10, u11, u12, u13, u14, u15, u16, u17, u18, u19, u20, u21, u22, u23, u24, u25, u26, u27, u28, u29, u30, u31, u32, u33, u34, u35, u36, u37, u38, u39, u40, u41, u42, u43, u44, u45, u46, u47, u48, u49, u50, u51], defers := markL ds } ∧
    Hid (acc ++ ptsF (256 - acc.length) st = ptsL s) ∧ acc.length ≤ 256 ∧ st.length ≤ 1 + 257 * acc.length ∧ Hid (SkOk s.size st) ∧
    Blk w' (w.heap.size + 1) 49 #[sv] ∧ w'.ownsRow w.heap.size 48 6 sv st.length (flatG skC st.reverse) ∧
    w'.ownsRow w.heap.size 26 5 lv acc.length (flatG ptC acc) ∧ MarksAt w.heap.size w' ds ∧ Below w.heap.size w w'

theorem below_put {B : Nat} {w A : World} (h : Below B w A) (D : Nat) (o' : Obj) (hD : B ≤ D) : Below B w (A.putObj D o') :=
  ⟨h.os, h.tape, h.output, by have := h.size; simpa using this, fun k hk => (World.putObj_heap_other (by omega)).trans (h.block k hk)⟩
/-- A row and a block of another type never lie in one place; nor do two rows. -/
theorem own_apart {W : World} {B k n D : Nat} {e t : TypeId} {v : Value} {xs : List Value} {cs : Array Value} (h : W.ownsRow B e k v n xs) (hb : Blk W D t cs) (ht : t ≠ e) : v.ownBlock ≠ some D := by
  rcases h.2 with ⟨rfl, _⟩ | ⟨g, cap, cur, rfl, _, hc, _⟩
  · simp [Value.ownBlock]
  · intro e'
    simp only [Value.ownBlock, Option.some.injEq] at e'
    subst e'
    unfold Blk at hb
    rw [hb] at hc
    injection hc with hc
    injection hc with _ hc
    exact ht hc
theorem own_apart2 {W : World} {B k n B' k' n' g : Nat} {e e' : TypeId} {v v' : Value} {xs xs' : List Value} (h : W.ownsRow B e k v n xs) (h' : W.ownsRow B' e' k' v' n' xs') (he : e ≠ e') (hg : v'.ownBlock = some g) : v.ownBlock ≠ some g := by
  rcases h'.2 with ⟨rfl, _⟩ | ⟨g', cap, cur, rfl, _, hc, _⟩
  · simp [Value.ownBlock] at hg
  · simp only [Value.ownBlock, Option.some.injEq] at hg
    subst hg
    exact own_apart h hc (fun e => he e.symm)
theorem own_keepK {W W' : World} {B k n B' k' n' : Nat} {e e' : TypeId} {v v' : Value} {xs xs' : List Value} (h : W.ownsRow B e k v n xs) (h' : W.ownsRow B' e' k' v' n' xs') (he : e ≠ e') (hg : W.grownBy W' v'.ownBlock) : W'.ownsRow B e k v n xs := by
  cases hv : v'.ownBlock with
  | none => rw [hv] at hg; exact h.kept hg (by cases hw : v.ownBlock <;> simp)
  | some g => rw [hv] at hg; exact h.kept hg (.inr (own_apart2 h h' he hv))
theorem blk_keep {W W' : World} {B k n D : Nat} {e t : TypeId} {v : Value} {xs : List Value} {cs : Array Value} (hb : Blk W D t cs) (h : W.ownsRow B e k v n xs) (ht : t ≠ e) (hg : W.grownBy W' v.ownBlock) : Blk W' D t cs := by
  unfold Blk
  rw [hg.block D hb.lt (fun e' => own_apart h hb ht e'.symm)]
  exact hb
theorem MarksAt.grown {B : Nat} {W W' : World} {ds : List Nat} {row : Option Nat} (h : MarksAt B W ds) (hg : W.grownBy W' row) (hr : ∀ r, row = some r → ∃ o : Obj, W.heap[r]? = some o ∧ o.isCells = true) : MarksAt B W' ds :=
  ⟨h.1, fun D hD => ⟨(h.2 D hD).1, by
    rw [hg.block D (h.lt D hD) (fun e => by
      obtain ⟨o, h1, h2⟩ := hr D e.symm
      rw [(h.2 D hD).2] at h1
      cases h1
      cases h2)]
    exact (h.2 D hD).2⟩⟩
theorem own_isCells {W : World} {B k n : Nat} {e : TypeId} {v : Value} {xs : List Value} (h : W.ownsRow B e k v n xs) : ∀ r, v.ownBlock = some r → ∃ o : Obj, W.heap[r]? = some o ∧ o.isCells = true := by
  intro r hr
  rcases h.2 with ⟨rfl, _⟩ | ⟨g', cap, cur, rfl, _, hc, _⟩
  · simp [Value.ownBlock] at hr
  · simp only [Value.ownBlock, Option.some.injEq] at hr
    subst hr
    exact ⟨_, hc, rfl⟩
theorem own_under {W W' : World} {B k n p : Nat} {e : TypeId} {v : Value} {xs : List Value} (h : W.ownsRow B e k v n xs) (hb : Below p W W') (hlt : ∀ g, v.ownBlock = some g → g < p) : W'.ownsRow B e k v n xs := by
  refine ⟨h.1, ?_⟩
  rcases h.2 with h0 | ⟨g, cap, cur, rfl, h1, hc, h2⟩
  · exact .inl h0
  · exact .inr ⟨g, cap, cur, rfl, h1, (hb.block g (hlt g rfl)).trans hc, h2⟩
theorem MarksAt.under {B p : Nat} {W W' : World} {ds : List Nat} (h : MarksAt B W ds) (hb : Below p W W') (hlt : ∀ D ∈ ds, D < p) : MarksAt B W' ds :=
  ⟨h.1, fun D hD => ⟨(h.2 D hD).1, (hb.block D (hlt D hD)).trans (h.2 D hD).2⟩⟩
theorem blk_under {W W' : World} {D p : Nat} {t : TypeId} {cs : Array Value} (h : Blk W D t cs) (hb : Below p W W') (hlt : D < p) : Blk W' D t cs := (hb.block D hlt).trans h
theorem blk_isCells {W : World} {D : Nat} {t : TypeId} {cs : Array Value} (h : Blk W D t cs) : ∀ r, some D = some r → ∃ o : Obj, W.heap[r]? = some o ∧ o.isCells = true := fun r e => by cases e; exact ⟨_, h, rfl⟩
/-- What abides where a block that is no cells is written. -/
def OthR (W : World) (row : Option Nat) : Prop := ∀ r, row = some r → ∃ o : Obj, W.heap[r]? = some o ∧ o.isCells = false
theorem blk_from {W W' : World} {D : Nat} {t : TypeId} {cs : Array Value} {row : Option Nat} (h : Blk W D t cs) (hg : W.grownBy W' row) (hr : OthR W row) : Blk W' D t cs := by
  unfold Blk
  rw [hg.block D h.lt (fun e => by
    obtain ⟨o, h1, h2⟩ := hr D e.symm
    rw [show W.heap[D]? = _ from h] at h1
    cases h1
    cases h2)]
  exact h
theorem own_from {W W' : World} {B k n : Nat} {e : TypeId} {v : Value} {xs : List Value} {row : Option Nat} (h : W.ownsRow B e k v n xs) (hg : W.grownBy W' row) (hr : OthR W row) : W'.ownsRow B e k v n xs := by
  refine h.kept hg ?_
  cases hv : v.ownBlock with
  | none => exact .inl rfl
  | some D =>
    refine .inr (fun e => ?_)
    obtain ⟨o, h1, h2⟩ := hr D e.symm
    obtain ⟨o', h3, h4⟩ := own_isCells h D hv
    rw [h1] at h3
    cases h3
    rw [h2] at h4
    cases h4
theorem MarksAt.from {B C : Nat} {W W' : World} {ds : List Nat} {row : Option Nat} (h : MarksAt B W ds) (hC : ∀ D ∈ ds, D < C) (hg : W.grownBy W' row) (hr : ∀ r, row = some r → C ≤ r) : MarksAt B W' ds :=
  ⟨h.1, fun D hD => ⟨(h.2 D hD).1, (hg.block D (h.lt D hD) (fun e => by have := hr D e.symm; have := hC D hD; omega)).trans (h.2 D hD).2⟩⟩

/-- One thing more on a stack that a box holds: what append does, and the store behind it. -/
theorem push_any (W : World) (B bx n : Nat) (sv : Value) (xs : List Value) (y : SK) (hbx : Blk W bx 49 #[sv]) (hrow : W.ownsRow B 48 6 sv n xs) (hn : n ≤ 1000000) (hB : B ≤ W.heap.size) (ty : TypeId) :
    ∃ a' c' W1, (Builtin.append_ #[49, 49] ty #[sv, .slice (some ⟨W.heap.size, 0, none⟩) 1 1]).run Tryd.prog (W.alloc (.cells #[.int .i64 y.1, .string ⟨#[]⟩, .string ⟨#[]⟩, .string ⟨#[]⟩, .string ⟨#[]⟩, .string y.2] 48)) = .ok (.slice a' (n + 1) c') W1 ∧
      Blk W1 bx 49 #[sv] ∧ Blk (W1.setCell ⟨bx, 0, none⟩ (.slice a' (n + 1) c')) bx 49 #[.slice a' (n + 1) c'] ∧ (W1.setCell ⟨bx, 0, none⟩ (.slice a' (n + 1) c')).ownsRow B 48 6 (.slice a' (n + 1) c') (n + 1) (xs ++ skC y) ∧
      (∀ (D : Nat) (o : Obj), W.heap[D]? = some o → D ≠ bx → sv.ownBlock ≠ some D → (W1.setCell ⟨bx, 0, none⟩ (.slice a' (n + 1) c')).heap[D]? = some o) ∧ W.heap.size ≤ (W1.setCell ⟨bx, 0, none⟩ (.slice a' (n + 1) c')).heap.size ∧
      (∀ n0, n0 ≤ B → n0 ≤ bx → Below n0 W (W1.setCell ⟨bx, 0, none⟩ (.slice a' (n + 1) c'))) ∧ ((Value.slice a' (n + 1) c').ownBlock = sv.ownBlock ∨ (Value.slice a' (n + 1) c').ownBlock = some (W.heap.size + 1)) := by
  obtain ⟨i0, hi, hq0, hq1, hq2⟩ := info_parts skInfo
  have hA : Below W.heap.size W (W.alloc (.cells #[.int .i64 y.1, .string ⟨#[]⟩, .string ⟨#[]⟩, .string ⟨#[]⟩, .string ⟨#[]⟩, .string y.2] 48)) := (Below.refl _ _).alloc (Nat.le_refl _) _
  have hzA := World.size_alloc W (.cells #[.int .i64 y.1, .string ⟨#[]⟩, .string ⟨#[]⟩, .string ⟨#[]⟩, .string ⟨#[]⟩, .string y.2] 48)
  have hnew := new_cells W 48 #[.int .i64 y.1, .string ⟨#[]⟩, .string ⟨#[]⟩, .string ⟨#[]⟩, .string ⟨#[]⟩, .string y.2] W.heap.size rfl
  have hbA := hbx.below hA
  have hrA := own_below hrow hA
  generalize W.alloc (.cells #[.int .i64 y.1, .string ⟨#[]⟩, .string ⟨#[]⟩, .string ⟨#[]⟩, .string ⟨#[]⟩, .string y.2] 48) = A at hA hzA hnew hbA hrA ⊢
  obtain ⟨v', W1, hrun, h2, h3, h4, h5⟩ := run_append_own_at (P := Tryd.prog) (w := A) B 49 ty 48 i0 (.agg #[.int .i64 0, .string ByteArray.empty, .string ByteArray.empty, .string ByteArray.empty, .string ByteArray.empty, .string ByteArray.empty]) 6 88 Tryd.underlying49 hi hq0 hq1 hq2 rfl (by decide) sv n xs hrA ⟨W.heap.size, 0, none⟩ 1 1 (skC y) rfl (fun j u hj => hnew j u hj) (by intro u hu; simp [skC] at hu; rcases hu with rfl | rfl | rfl <;> rfl) (by unfold maxLen; omega) (by omega) (by omega)
  obtain ⟨a', c', hv⟩ := own_formH h2
  subst hv
  have hb1 := blk_keep hbA hrA (by decide) h3
  have hg4 := grownBy_setCell' W1 bx (.slice a' (n + 1) c')
  have hb2 := hb1.set 0 (.slice a' (n + 1) c')
  have hr2 := h2.kept hg4 (.inr (own_apart h2 hb1 (by decide)))
  have hsz3 := h3.size
  have hsz4 := hg4.size
  refine ⟨a', c', W1, hrun, hb1, hb2, hr2, ?_, by omega, ?_, ?_⟩
  · intro D o hD hne hnr
    have hlt := (Array.getElem?_eq_some_iff.1 hD).1
    rw [hg4.block D (by omega) (fun e => hne (Option.some.inj e)), h3.block D (by omega) (fun e => hnr e.symm), hA.block D hlt]
    exact hD
  · intro n0 h0 h1
    have b1 : Below n0 W A := hA.mono (by omega)
    exact (b1.grown h3 (by omega) (fun k e => by have := (hrA.lt k e).1; omega)).grown hg4 (by omega) (fun k e => by cases e; omega)
  · rw [hzA] at h5
    exact h5
theorem wpListIn_append_runM {F : Fence} {n : Nat} {P : Program} {w w' : World} {v v' xv : Value} {ty : TypeId} {ops : Array Oper} {rest : List Oper} {o : Oper} {a : Act} {Q : Exit → Act → World → Prop} (hg : o.guard = none) (s x : Operand) (t : TypeId)
    (ho : o.op = .call { callee := .builtin .append, args := #[s, x], argTypes := #[t, t] }) (hty : o.type = ty) (hs : a.eval s = v) (hx : a.eval x = xv)
    (hrun : (Builtin.append_ #[t, t] ty #[v, xv]).run P w = .ok v' w')
    (h : wpListIn F n P ops Q rest (a.put o.dst v') w') : wpListIn F n P ops Q (o :: rest) a w := by
  refine wpListIn_plain hg fun K hK => ?_
  subst hty
  unfold Oper.wpIn
  refine ⟨by simp [Oper.about, ho, resolve, Target.leads, Sem.run_pure], ?_⟩
  rw [Oper.semAt_plain F _ _ (by rw [ho]; intro c hc'; cases hc')]
  simp [execOp, ho, resolve, invoke, builtin, hs, hx, hrun, Result.andThen]
  exact hK _ _ h
theorem blk_ne {W : World} {D D' : Nat} {t t' : TypeId} {cs cs' : Array Value} (h : Blk W D t cs) (h' : Blk W D' t' cs') (ht : t ≠ t') : D ≠ D' := by
  rintro rfl
  unfold Blk at h h'
  rw [h] at h'
  injection h' with h'
  injection h' with _ h'
  exact ht h'
theorem own_same {W W' : World} {B k n : Nat} {e : TypeId} {v : Value} {xs : List Value} (h : W.ownsRow B e k v n xs) (hs : ∀ (D : Nat) (cur : Array Value), v.ownBlock = some D → Blk W D e cur → Blk W' D e cur) : W'.ownsRow B e k v n xs := by
  refine ⟨h.1, ?_⟩
  rcases h.2 with h0 | ⟨g, cap, cur, rfl, h1, hc, h2⟩
  · exact .inl h0
  · exact .inr ⟨g, cap, cur, rfl, h1, hs g cur rfl hc, h2⟩
theorem MarksAt.same {B : Nat} {W W' : World} {ds : List Nat} (h : MarksAt B W ds) (hs : ∀ (D : Nat) (o : Obj), W.heap[D]? = some o → o.isCells = false → W'.heap[D]? = some o) : MarksAt B W' ds :=
  ⟨h.1, fun D hD => ⟨(h.2 D hD).1, hs D _ (h.2 D hD).2 rfl⟩⟩
end Go.Proofs.YtedpimhhbajljaaDoor
