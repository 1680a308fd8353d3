/-
  What post.merge does, over this seat's program.
-/
import Derived.Test.YtfjjigcghhohkaaPpk
import Derived.Laws.AppendOwnNone
set_option linter.unusedVariables false
namespace Go.Proofs.Ytfjjigcghhohkaa
open Go.RowKit Go.Proofs.Num Go.Proofs.Dct Go.Proofs.Pst

/-- A slice that lies nowhere is nil. -/
def NeatS (v : Value) : Prop := (∀ n cap, v = .slice none n cap → n = 0 ∧ cap = 0) ∧ ∀ a n cap, v = .slice a n cap → n ≤ cap
def slLen : Value → Nat
  | .slice _ n _ => n
  | _ => 0
theorem own_neat {w : World} {B e z : Nat} {v : Value} {n : Nat} {xs : List Value} (h : w.ownsRow B e z v n xs) : NeatS v := by
  refine ⟨fun m cap hv => ?_, fun a m cap hv => ?_⟩
  · rcases h.2 with ⟨h1, _⟩ | ⟨g, cap', cur, h1, _⟩
    · rw [hv] at h1
      injection h1 with _ h2 h3
      exact ⟨h2, h3⟩
    · rw [hv] at h1
      injection h1 with h2
      cases h2
  · obtain ⟨a', c', h1, h2⟩ := own_sliceG h
    rw [hv] at h1
    injection h1 with h3 h4 h5
    omega
theorem row_tail {w : World} {b off n cap : Nat} {l : List Nat} (h : Row32 w (.slice (some ⟨b, off, none⟩) n cap) l) (hn : 0 < n) (a' : Option Addr) (cap' : Nat) (ha : 1 < n → a' = some ⟨b, off + 1, none⟩) : Row32 w (.slice a' (n - 1) cap') (l.drop 1) := by
  have hlen := h.len
  obtain ⟨a, c, hv, hl, hf, hc⟩ := h
  injection hv with e1 e2 e3
  refine ⟨a', cap', by rw [List.length_drop, hlen], by rw [List.length_drop]; omega, fun x hx => hf x (List.mem_of_mem_drop hx), ?_⟩
  by_cases h1 : 1 < n
  · right
    rcases hc with hc | ⟨b2, off2, ha2, hlt, hc⟩
    · subst hc; simp at hlen; omega
    · rw [← e1] at ha2
      injection ha2 with e4
      injection e4 with e5 e6
      subst e5 e6
      refine ⟨b, off + 1, ha h1, hlt, fun j u hj => ?_⟩
      rw [flatG_drop cells32_len, List.getElem?_drop, Nat.one_mul] at hj
      have := hc (1 + j) u hj
      rw [Nat.add_assoc]
      exact this
  · left
    apply List.eq_nil_of_length_eq_zero
    rw [List.length_drop]
    omega

theorem rowT {w : World} {b off P cap x : Nat} {p : List Nat} (h : Row32 w (.slice (some ⟨b, off, none⟩) (P + 1) cap) (x :: p)) (hc : P + 1 ≤ cap) : Row32 w (.slice (if cap = 1 then some ⟨b, off, none⟩ else some ⟨b, off + 1, none⟩) P (cap - 1)) p := by
  have := row_tail h (by omega) (if cap = 1 then some ⟨b, off, none⟩ else some ⟨b, off + 1, none⟩) (cap - 1) (fun h1 => by rw [if_neg (by omega)])
  simpa using this
theorem neatT {b off P cap : Nat} (hc : P + 1 ≤ cap) : NeatS (.slice (if cap = 1 then some ⟨b, off, none⟩ else some ⟨b, off + 1, none⟩) P (cap - 1)) := by
  refine ⟨fun n c hv => ?_, fun a n c hv => ?_⟩
  · injection hv with h1
    split at h1 <;> cases h1
  · injection hv with _ h2 h3
    omega
theorem row_take {w : World} {a : Option Addr} {m n cap : Nat} {l : List Nat} (h : Row32 w (.slice a m cap) l) (hn : n ≤ l.length) (cap2 : Nat) : Row32 w (.slice a n cap2) (l.take n) := by
  obtain ⟨a', cap', hv, h4, hf, hc⟩ := h
  injection hv with h1 h2 h3
  subst h1
  have hl : (l.take n).length = n := by rw [List.length_take]; omega
  refine ⟨a, cap2, by rw [hl], by omega, fun f hm => hf f (List.mem_of_mem_take hm), ?_⟩
  rcases hc with hc | ⟨b, off, ha, hb, hcj⟩
  · left; subst hc; simp
  · right
    refine ⟨b, off, ha, hb, fun j u hj => hcj j u ?_⟩
    rw [flatG_take cells32_len, List.getElem?_take] at hj
    split at hj
    · exact hj
    · cases hj

/-- The run of an append of numbers. -/
theorem run_append_row32 (w : World) (B : Nat) (v x : Value) (k l : List Nat) (ty : TypeId) (hown : w.ownsRow B 31 1 v k.length (flatG cells32 k)) (hx : Row32 w x l) (hnt : NeatS x) (hkl : k.length + l.length ≤ 4194304) (hB : B ≤ w.heap.size) :
    ∃ v' w', (Builtin.append_ #[22, 22] ty #[v, x]).run Try.prog w = .ok v' w' ∧ w'.ownsRow B 31 1 v' (k ++ l).length (flatG cells32 (k ++ l)) ∧ w.grownBy w' v.ownBlock ∧ Below B w w' := by
  obtain ⟨i0, hi, hz0, hz1, hz2⟩ := info_parts u32Info
  obtain ⟨a, cap, rfl, hl, hr, hc⟩ := hx
  cases a with
  | none =>
    obtain ⟨h0, rfl⟩ := hnt.1 _ _ rfl
    have hl : l = [] := List.eq_nil_of_length_eq_zero h0
    subst hl
    refine ⟨v, w, run_append_owned_none (P := Try.prog) (w := w) B 22 ty 31 i0 1 Try.underlying22 hi v _ _ hown, by simpa using hown, ⟨rfl, rfl, rfl, Nat.le_refl _, fun _ _ _ => rfl⟩, Below.refl _ _⟩
  | some ad =>
    have hnews : ∀ j u, (flatG cells32 l)[j]? = some u → w.cell? (ad.add j) = some u := by
      intro j u hj
      rcases hc with hc | ⟨b, off, ha, hlt, hc⟩
      · subst hc; simp [flatG] at hj
      · obtain rfl := Option.some.inj ha
        rw [add_off0]
        exact hc j u hj
    obtain ⟨v', w', hrun, h2, h3, h4⟩ := run_append_own (P := Try.prog) w B 22 ty 31 i0 (.int .u32 0) 1 4 Try.underlying22 hi hz0 hz1 hz2 rfl (by decide) v k.length (flatG cells32 k) hown ad l.length cap (flatG cells32 l) (flatG_length cells32_len l) hnews (by
      intro u hu
      obtain ⟨n, _, hn⟩ := List.mem_flatMap.1 hu
      simp only [cells32, List.mem_cons, List.not_mem_nil, or_false] at hn
      subst hn
      rfl) (by unfold maxLen; omega) (by omega) hB
    refine ⟨v', w', hrun, by rw [List.length_append, flatG_append]; exact h2, h3, ?_⟩
    exact below_own (Below.refl _ _) hown h3 hB
theorem wpList_append_runP {P : Program} {w w' : World} {v v' xv : Value} {ty : TypeId} {ops : Array Oper} {rest : List Oper} {o : Oper} {a : Act} {Q : Exit → Act → World → Prop} (hw : Region.wanted o (yielded ops a.tmps) = true) (s x : Operand) (t : TypeId)
    (ho : o.op = .call { callee := .builtin .append, args := #[s, x], argTypes := #[t, t] }) (hty : o.type = ty) (hs : a.eval s = v) (hx : a.eval x = xv)
    (hrun : (Builtin.append_ #[t, t] ty #[v, xv]).run P w = .ok v' w')
    (h : wpList P ops Q rest (a.put o.dst v') w') : wpList P ops Q (o :: rest) a w := by
  refine wpList_step fun K hK => ?_
  rw [if_pos hw]
  subst hty
  unfold Oper.wp
  simp [execOp, ho, resolve, invoke, builtin, hs, hx, hrun, Result.andThen]
  exact hK _ _ h

end Go.Proofs.Ytfjjigcghhohkaa
