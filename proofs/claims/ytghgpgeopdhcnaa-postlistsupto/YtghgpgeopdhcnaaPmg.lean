/-
  What post.merge does, over this seat's program.
-/
import Derived.Test.YtghgpgeopdhcnaaPpk
import Derived.Laws.AppendOwnNone
set_option linter.unusedVariables false
namespace Go.Proofs.Ytghgpgeopdhcnaa
open Go.RowKit Go.Proofs.Num Go.Proofs.Dct Go.Proofs.Pst

/-- A slice that lies nowhere is nil. -/
def NeatS (v : Value) : Prop := (∀ n cap, v = .slice none n cap → n = 0 ∧ cap = 0) ∧ ∀ a n cap, v = .slice a n cap → n ≤ cap
def slLen : Value → Nat
  | .slice _ n _ => n
  | _ => 0
theorem own_neat {w : World} {B e z : Nat} {v : Value} {n : Nat} {xs : List Value} (h : w.ownsRow B e z v n xs) : NeatS v := by
  refine ⟨fun m cap hv => ?_, fun a m cap hv => ?_⟩
  · rcases h.2 with ⟨h1, _⟩ | ⟨g, cap', cur, h1, _⟩
    · rw [hv] at h1
      injection h1 with _ h2 h3
      exact ⟨h2, h3⟩
    · rw [hv] at h1
      injection h1 with h2
      cases h2
  · obtain ⟨a', c', h1, h2⟩ := own_sliceG h
    rw [hv] at h1
    injection h1 with h3 h4 h5
    omega
theorem row_tail {w : World} {b off n cap : Nat} {l : List Nat} (h : Row32 w (.slice (some ⟨b, off, none⟩) n cap) l) (hn : 0 < n) (a' : Option Addr) (cap' : Nat) (ha : 1 < n → a' = some ⟨b, off + 1, none⟩) : Row32 w (.slice a' (n - 1) cap') (l.drop 1) := by
  have hlen := h.len
  obtain ⟨a, c, hv, hl, hf, hc⟩ := h
  injection hv with e1 e2 e3
  refine ⟨a', cap', by rw [List.length_drop, hlen], by rw [List.length_drop]; omega, fun x hx => hf x (List.mem_of_mem_drop hx), ?_⟩
  by_cases h1 : 1 < n
  · right
    rcases hc with hc | ⟨b2, off2, ha2, hlt, hc⟩
    · subst hc; simp at hlen; omega
    · rw [← e1] at ha2
      injection ha2 with e4
      injection e4 with e5 e6
      subst e5 e6
      refine ⟨b, off + 1, ha h1, hlt, fun j u hj => ?_⟩
      rw [flatG_drop cells32_len, List.getElem?_drop, Nat.one_mul] at hj
      have := hc (1 + j) u hj
      rw [Nat.add_assoc]
      exact this
  · left
    apply List.eq_nil_of_length_eq_zero
    rw [List.length_drop]
    omega

theorem rowT {w : World} {b off P cap x : Nat} {p : List Nat} (h : Row32 w (.slice (some ⟨b, off, none⟩) (P + 1) cap) (x :: p)) (hc : P + 1 ≤ cap) : Row32 w (.slice (if cap = 1 then some ⟨b, off, none⟩ else some ⟨b, off + 1, none⟩) P (cap - 1)) p := by
  have := row_tail h (by omega) (if cap = 1 then some ⟨b, off, none⟩ else some ⟨b, off + 1, none⟩) (cap - 1) (fun h1 => by rw [if_neg (by omega)])
  simpa using this
theorem neatT {b off P cap : Nat} (hc : P + 1 ≤ cap) : NeatS (.slice (if cap = 1 then some ⟨b, off, none⟩ else some ⟨b, off + 1, none⟩) P (cap - 1)) := by
  refine ⟨fun n c hv => ?_, fun a n c hv => ?_⟩
  · injection hv with h1
    split at h1 <;> cases h1
  · injection hv with _ h2 h3
    omega
theorem row_take {w : World} {a : Option Addr} {m n cap : Nat} {l : List Nat} (h : Row32 w (.slice a m cap) l) (hn : n ≤ l.length) (cap2 : Nat) : Row32 w (.slice a n cap2) (l.take n) := by
  obtain ⟨a', cap', hv, h4, hf, hc⟩ := h
  injection hv with h1 h2 h3
  subst h1
  have hl : (l.take n).length = n := by rw [List.length_take]; omega
  refine ⟨a, cap2, by rw [hl], by omega, fun f hm => hf f (List.mem_of_mem_take hm), ?_⟩
  rcases hc with hc | ⟨b, off, ha, hb, hcj⟩
  · left; subst hc; simp
  · right
    refine ⟨b, off, ha, hb, fun j u hj => hcj j u ?_⟩
    rw [flatG_take cells32_len, List.getElem?_take] at hj
    split at hj
    · exact hj
    · cases hj

/-- The run of an append of numbers. -/
theorem run_append_row32 (w : World) (B : Nat) (v x : Value) (k l : List Nat) (ty : TypeId) (hown : w.ownsRow B 32 1 v k.length (flatG cells32 k)) (hx : Row32 w x l) (hnt : NeatS x) (hkl : k.length + l.length ≤ 4194304) (hB : B ≤ w.heap.size) :
    ∃ v' w', (Builtin.append_ #[23, 23] ty #[v, x]).run Try.prog w = .ok v' w' ∧ w'.ownsRow B 32 1 v' (k ++ l).length (flatG cells32 (k ++ l)) ∧ w.grownBy w' v.ownBlock ∧ Below B w w' := by
  obtain ⟨i0, hi, hz0, hz1, hz2⟩ := info_parts u32Info
  obtain ⟨a, cap, rfl, hl, hr, hc⟩ := hx
  cases a with
  | none =>
    obtain ⟨h0, rfl⟩ := hnt.1 _ _ rfl
    have hl : l = [] := List.eq_nil_of_length_eq_zero h0
    subst hl
    refine ⟨v, w, run_append_owned_none (P := Try.prog) (w := w) B 23 ty 32 i0 1 Try.underlying23 hi v _ _ hown, by simpa using hown, ⟨rfl, rfl, rfl, Nat.le_refl _, fun _ _ _ => rfl⟩, Below.refl _ _⟩
  | some ad =>
    have hnews : ∀ j u, (flatG cells32 l)[j]? = some u → w.cell? (ad.add j) = some u := by
      intro j u hj
      rcases hc with hc | ⟨b, off, ha, hlt, hc⟩
      · subst hc; simp [flatG] at hj
      · obtain rfl := Option.some.inj ha
        rw [add_off0]
        exact hc j u hj
    obtain ⟨v', w', hrun, h2, h3, h4⟩ := run_append_own (P := Try.prog) w B 23 ty 32 i0 (.int .u32 0) 1 4 Try.underlying23 hi hz0 hz1 hz2 rfl (by decide) v k.length (flatG cells32 k) hown ad l.length cap (flatG cells32 l) (flatG_length cells32_len l) hnews (by
      intro u hu
      obtain ⟨n, _, hn⟩ := List.mem_flatMap.1 hu
      simp only [cells32, List.mem_cons, List.not_mem_nil, or_false] at hn
      subst hn
      rfl) (by unfold maxLen; omega) (by omega) hB
    refine ⟨v', w', hrun, by rw [List.length_append, flatG_append]; exact h2, h3, ?_⟩
    exact below_own (Below.refl _ _) hown h3 hB
theorem wpList_append_runP {P : Program} {w w' : World} {v v' xv : Value} {ty : TypeId} {ops : Array Oper} {rest : List Oper} {o : Oper} {a : Act} {Q : Exit → Act → World → Prop} (hw : Region.wanted o (yielded ops a.tmps) = true) (s x : Operand) (t : TypeId)
    (ho : o.op = .call { callee := .builtin .append, args := #[s, x], argTypes := #[t, t] }) (hty : o.type = ty) (hs : a.eval s = v) (hx : a.eval x = xv)
    (hrun : (Builtin.append_ #[t, t] ty #[v, xv]).run P w = .ok v' w')
    (h : wpList P ops Q rest (a.put o.dst v') w') : wpList P ops Q (o :: rest) a w := by
  refine wpList_step fun K hK => ?_
  rw [if_pos hw]
  subst hty
  unfold Oper.wp
  simp [execOp, ho, resolve, invoke, builtin, hs, hx, hrun, Result.andThen]
  exact hK _ _ h

set_option maxHeartbeats 2000000 in
set_option maxRecDepth 100000 in
theorem merge_any (v vb : Value) (a b : List Nat) (w : World) (h : Row32 w v a) (hb : Row32 w vb b) (hn : NeatS v) (hnb : NeatS vb) (hl : a.length ≤ 65537) (hlb : b.length ≤ 65537) :
    Calls Try.prog 45 #[v, vb] w fun e w' => ∃ v', e = .returned v' ∧ Row32 w' v' ((mergeL a b).take 65537) ∧ NeatS v' ∧ Below w.heap.size w w' := by
  obtain ⟨i0, hi, hz0, hz1, hz2⟩ := info_parts u32Info
  have HR := hide h
  have HRB := hide hb
  have HN := hide hn
  have HNB := hide hnb
  clear h hb hn hnb
  go_enter Try.func45, Try.ntmps45
  go_wp2
  go_loopw [0, 1, 5, 6] (fun x0 x1 xl x6 wr => ∃ (p q acc : List Nat) (m : Nat), m ≤ 131074 ∧ Hid (m = acc.length) ∧ Hid (Row32 w x0 p) ∧ Hid (NeatS x0) ∧ Hid (Row32 w x1 q) ∧ Hid (NeatS x1) ∧ Hid (acc ++ mergeL p q = mergeL a b) ∧ Hid (acc.length + p.length + q.length ≤ a.length + b.length) ∧ Hid (wr.ownsRow w.heap.size 32 1 xl m (flatG cells32 acc)) ∧ Hid (∀ x ∈ acc, x ≤ 4294967295) ∧ Hid (Below w.heap.size w wr)) (fun x0 x1 _ _ _ => slLen x0 + slLen x1)
  case atStart => exact ⟨a, b, [], 0, by omega, hide rfl, HR, HN, HRB, HNB, hide (by simp), hide (by simp), hide ⟨by simp [flatG], Or.inl ⟨rfl, rfl⟩⟩, hide (by simp), hide (Below.refl _ _)⟩
  case round =>
    obtain ⟨p, q, acc, m, hm, HM, HP, HNP, HQ, HNQ, HA, HL, HO, HF, HB⟩ := hrel
    obtain ⟨a0, cap0, hv0, _⟩ := unhide HP
    obtain ⟨a1, cap1, hv1, _⟩ := unhide HQ
    subst hv0 hv1
    obtain ⟨ao, co, hu5, hco⟩ := own_sliceG (unhide HO)
    subst hu5
    by_cases hex : p.length = 0 ∨ q.length = 0
    · have hmq : mergeL p q = p ++ q := by
        rcases hex with h | h
        · have : p = [] := List.eq_nil_of_length_eq_zero h
          subst this
          rw [merge_nil]; rfl
        · have : q = [] := List.eq_nil_of_length_eq_zero h
          subst this
          rw [merge_nil', List.append_nil]
      have hlen : acc.length + p.length + q.length ≤ 131074 := by have := unhide HL; omega
      have hmm := unhide HM
      obtain ⟨v1, W1, hrun1, how1, hgr1, hbl1⟩ := run_append_row32 wr w.heap.size (.slice ao m co) (.slice a0 p.length cap0) acc p 23 (by rw [← hmm]; exact unhide HO) ((unhide HP).below (unhide HB)) (unhide HNP) (by omega) (unhide HB).size
      have hB1 := (unhide HB).trans hbl1
      obtain ⟨v2, W2, hrun2, how2, hgr2, hbl2⟩ := run_append_row32 W1 w.heap.size v1 (.slice a1 q.length cap1) (acc ++ p) q 23 how1 ((unhide HQ).below hB1) (unhide HNQ) (by rw [List.length_append]; omega) hB1.size
      have hB2 := hB1.trans hbl2
      have hfull : acc ++ p ++ q = mergeL a b := by rw [← unhide HA, hmq, List.append_assoc]
      have hall : ∀ x ∈ mergeL a b, x ≤ 4294967295 := by
        intro x hx
        rw [← hfull] at hx
        rcases List.mem_append.1 hx with hx | hx
        · rcases List.mem_append.1 hx with hx | hx
          · exact unhide HF x hx
          · obtain ⟨_, _, _, _, hf, _⟩ := unhide HP; exact hf x hx
        · obtain ⟨_, _, _, _, hf, _⟩ := unhide HQ; exact hf x hx
      have hl2 : (acc ++ p ++ q).length ≤ 131074 := by rw [List.length_append, List.length_append]; omega
      rw [hfull] at how2 hl2
      have hrow2 := row32_of how2 (by omega) hall
      have hnt2 := own_neat how2
      obtain ⟨a2, cap2, hv2, hcap2⟩ := own_sliceG how2
      have HB2 := hide hB2
      have HROW := hide hrow2
      have HNT := hide hnt2
      obtain ⟨z1, cz1, hz1v, hcz1⟩ := own_sliceG how1
      subst hv2 hz1v
      clear hlen hmm how1 hgr1 hbl1 hB1 how2 hgr2 hbl2 hB2 hfull hall hrow2 hnt2 HA HL HM HO HF HB HR HRB HN HNB
      obtain ⟨M1, hM1⟩ : ∃ M1, M1 = (acc ++ p).length := ⟨_, rfl⟩
      rw [← hM1] at hrun1 hrun2 hcz1
      clear hM1
      obtain ⟨M, hM⟩ : ∃ M, M = (mergeL a b).length := ⟨_, rfl⟩
      rw [← hM] at hl2 hcap2 HROW HNT hrun2
      have HMM := hide hM
      clear hM
      generalize p.length = LP at *
      generalize q.length = LQ at *
      have hgd : (LP = 0) ∨ (0 < LP ∧ LQ = 0) := by omega
      rcases hgd with hg1 | ⟨hg1, hg2⟩
      · have hgi : ¬ (0 : Int) < (LP : Int) := by omega
        clear hg1 hex
        go_wp2_with (at_builtin; first | refine wpList_append_runP (by rfl) _ _ 23 rfl rfl rfl rfl hrun1 ?_ | refine wpList_append_runP (by rfl) _ _ 23 rfl rfl rfl rfl hrun2 ?_)
        go_ret
        have hK : (min (M : Int) 65537).toNat = min M 65537 := by omega
        refine ⟨_, rfl, ?_, ?_, unhide HB2⟩
        · rw [hK]
          have h1 := row_take (unhide HROW) (n := min M 65537) (by have := unhide HMM; omega) cap2
          have h2 : (mergeL a b).take (min M 65537) = (mergeL a b).take 65537 := by
            have := unhide HMM
            rw [List.take_eq_take_iff]
            omega
          rw [h2] at h1
          exact h1
        · refine ⟨fun n cap hv => ?_, fun a3 n cap hv => ?_⟩
          · injection hv with f1 f2 f3
            subst f1
            have := (unhide HNT).1 M cap2 rfl
            omega
          · injection hv with f1 f2 f3
            omega
      · have hgi : (0 : Int) < (LP : Int) := by omega
        have hgj : ¬ (0 : Int) < (LQ : Int) := by omega
        clear hg1 hg2 hex
        go_wp2_with (at_builtin; first | refine wpList_append_runP (by rfl) _ _ 23 rfl rfl rfl rfl hrun1 ?_ | refine wpList_append_runP (by rfl) _ _ 23 rfl rfl rfl rfl hrun2 ?_)
        go_ret
        have hK : (min (M : Int) 65537).toNat = min M 65537 := by omega
        refine ⟨_, rfl, ?_, ?_, unhide HB2⟩
        · rw [hK]
          have h1 := row_take (unhide HROW) (n := min M 65537) (by have := unhide HMM; omega) cap2
          have h2 : (mergeL a b).take (min M 65537) = (mergeL a b).take 65537 := by
            have := unhide HMM
            rw [List.take_eq_take_iff]
            omega
          rw [h2] at h1
          exact h1
        · refine ⟨fun n cap hv => ?_, fun a3 n cap hv => ?_⟩
          · injection hv with f1 f2 f3
            subst f1
            have := (unhide HNT).1 M cap2 rfl
            omega
          · injection hv with f1 f2 f3
            omega
    · cases p with
      | nil => exact absurd (Or.inl rfl) hex
      | cons x p =>
        cases q with
        | nil => exact absurd (Or.inr rfl) hex
        | cons y q =>
          clear hex
          obtain ⟨b0, off0, cp0, hw0, hlt0, hc0⟩ := RowG.at cells32_len (unhide HP) (j := 0) (by simp)
          obtain ⟨b1, off1, cp1, hw1, hlt1, hc1⟩ := RowG.at cells32_len (unhide HQ) (j := 0) (by simp)
          injection hw0 with e1 e2 e3
          injection hw1 with e4 e5 e6
          subst e1 e4
          have c0 := hc0 0 (by omega)
          have d0 := hc1 0 (by omega)
          simp only [List.getElem_cons_zero, cells32, List.getElem?_cons_zero, Nat.add_zero, Nat.zero_mul] at c0 d0
          have c0' : wr.cell? ⟨b0, off0, none⟩ = some (.int .u32 (x : Int)) := ((unhide HB).cell (p := ⟨b0, off0, none⟩) hlt0).trans c0
          have d0' : wr.cell? ⟨b1, off1, none⟩ = some (.int .u32 (y : Int)) := ((unhide HB).cell (p := ⟨b1, off1, none⟩) hlt1).trans d0
          have hfx : x ≤ 4294967295 := by obtain ⟨_, _, _, _, hf, _⟩ := unhide HP; exact hf x (by simp)
          have hfy : y ≤ 4294967295 := by obtain ⟨_, _, _, _, hf, _⟩ := unhide HQ; exact hf y (by simp)
          have hL := unhide HL
          simp only [List.length_cons] at hL
          have hcp0 : p.length + 1 ≤ cap0 := (unhide HNP).2 _ _ _ rfl
          have hcp1 : q.length + 1 ≤ cap1 := (unhide HNQ).2 _ _ _ rfl
          have c00 := c0
          have d00 := d0
          clear c0 d0 hc0 hc1 e2 e3 e5 e6
          rcases Nat.lt_trichotomy x y with hxy | hxy | hxy
          · have hi1 : min (x : Int) (y : Int) = (x : Int) := by omega
            have hi2 : ((y : Int) == (x : Int)) = false := by simp; omega
            have HA9 : Hid ((acc ++ [x]) ++ mergeL p (y :: q) = mergeL a b) := hide (by rw [← unhide HA, merge_lt hxy, List.append_assoc]; rfl)
            have HL9 : Hid ((acc ++ [x]).length + (p).length + ((y :: q)).length ≤ a.length + b.length) := hide (by simp only [List.length_append, List.length_cons, List.length_nil]; omega)
            have HF9 : Hid (∀ z ∈ acc ++ [x], z ≤ 4294967295) := hide (by
              intro z hz
              rcases List.mem_append.1 hz with hz | hz
              · exact unhide HF z hz
              · rw [List.mem_singleton] at hz; rw [hz]; exact hfx)
            have HM9 : Hid (m + 1 = (acc ++ [x]).length) := hide (by rw [List.length_append, ← unhide HM]; rfl)
            have hm9 : m + 1 ≤ 131074 := by have h1 := unhide HM9; have h2 := unhide HL9; omega
            have hzr := (unhide HB).size
            have HX9 : Hid (flatG cells32 (acc ++ [x]) = flatG cells32 acc ++ [.int .u32 (x : Int)]) := hide (by rw [flatG_append, flatG_one]; rfl)
            obtain ⟨P, hP⟩ : ∃ P, P = p.length := ⟨_, rfl⟩
            obtain ⟨Q, hQ⟩ : ∃ Q, Q = q.length := ⟨_, rfl⟩
            simp only [List.length_cons]
            simp only [List.length_cons] at HP HQ HNP HNQ
            rw [← hP] at hcp0 HP HNP ⊢
            rw [← hQ] at hcp1 HQ HNQ ⊢
            have HPQ := hide (And.intro hP hQ)
            clear hP hQ HA HL HF HM hL
            go_wp2
            go_quiet (fail)
            have HBD : Hid (Below w.heap.size w (wr.drewN nq)) := hide (below_drewN (unhide HB) nq)
            have HOD := hide (own_below (unhide HO) (below_drewN (Below.refl wr.heap.size wr) nq))
            have m0 : (wr.drewN nq).cell? ⟨b0, off0, none⟩ = some (.int .u32 (x : Int)) := c0'
            have m1 : (wr.drewN nq).cell? ⟨b1, off1, none⟩ = some (.int .u32 (y : Int)) := d0'
            clear HB HO c0' d0' hzr
            generalize wr.drewN nq = V at HBD HOD m0 m1 ⊢
            have hzr := (unhide HBD).size
            have HOW := hide (own_below (unhide HOD) ((Below.refl _ V).alloc (Nat.le_refl _) (.cells #[.int .u32 (x : Int)] 32)))
            go_wp2_with (at_builtin; refine wpList_append_own _ rfl _ _ 23 rfl w.heap.size 32 i0 (.int .u32 0) 1 4 Try.underlying23 hi hz0 hz1 hz2 rfl (by decide) _ _ _ rfl (unhide HOW) ⟨V.heap.size, 0, none⟩ 1 1 [.int .u32 (x : Int)] rfl rfl ?x1 ?x2 ?x3 ?x4 ?x5 ?_)
            case x1 =>
              intro j u hj
              exact new_cells _ _ _ _ rfl j u hj
            case x2 => intro u hu; simp at hu; subst hu; rfl
            case x3 => unfold maxLen; omega
            case x4 => omega
            case x5 => simp; omega
            intro v' w4 hown' hgrow _
            have HB4 := hide (below_own ((unhide HBD).alloc hzr (.cells #[.int .u32 (x : Int)] 32)) (unhide HOW) hgrow (by simp; omega))
            rw [← unhide HX9] at hown'
            have HO4 := hide hown'
            have k0 : w4.cell? ⟨b0, off0, none⟩ = some (.int .u32 (x : Int)) := ((unhide HB4).cell (p := ⟨b0, off0, none⟩) hlt0).trans c00
            have k1 : w4.cell? ⟨b1, off1, none⟩ = some (.int .u32 (y : Int)) := ((unhide HB4).cell (p := ⟨b1, off1, none⟩) hlt1).trans d00
            obtain ⟨aq, cq, hvq, hcq⟩ := own_sliceG hown'
            subst hvq
            clear hown' hgrow HOW HOD HBD m0 m1
            go_wp2
            exact ⟨⟨p, y :: q, acc ++ [x], m + 1, hm9, HM9, hide (rowT (unhide HP) hcp0), hide (neatT hcp0), HQ, HNQ, HA9, HL9, HO4, HF9, HB4⟩, by simp [slLen]⟩
          · subst hxy
            have hi1 : min (x : Int) (x : Int) = (x : Int) := by omega
            have HA9 : Hid ((acc ++ [x]) ++ mergeL p q = mergeL a b) := hide (by rw [← unhide HA, merge_eq rfl, List.append_assoc]; rfl)
            have HL9 : Hid ((acc ++ [x]).length + (p).length + (q).length ≤ a.length + b.length) := hide (by simp only [List.length_append, List.length_cons, List.length_nil]; omega)
            have HF9 : Hid (∀ z ∈ acc ++ [x], z ≤ 4294967295) := hide (by
              intro z hz
              rcases List.mem_append.1 hz with hz | hz
              · exact unhide HF z hz
              · rw [List.mem_singleton] at hz; rw [hz]; exact hfx)
            have HM9 : Hid (m + 1 = (acc ++ [x]).length) := hide (by rw [List.length_append, ← unhide HM]; rfl)
            have hm9 : m + 1 ≤ 131074 := by have h1 := unhide HM9; have h2 := unhide HL9; omega
            have hzr := (unhide HB).size
            have HX9 : Hid (flatG cells32 (acc ++ [x]) = flatG cells32 acc ++ [.int .u32 (x : Int)]) := hide (by rw [flatG_append, flatG_one]; rfl)
            obtain ⟨P, hP⟩ : ∃ P, P = p.length := ⟨_, rfl⟩
            obtain ⟨Q, hQ⟩ : ∃ Q, Q = q.length := ⟨_, rfl⟩
            simp only [List.length_cons]
            simp only [List.length_cons] at HP HQ HNP HNQ
            rw [← hP] at hcp0 HP HNP ⊢
            rw [← hQ] at hcp1 HQ HNQ ⊢
            have HPQ := hide (And.intro hP hQ)
            clear hP hQ HA HL HF HM hL
            go_wp2
            go_quiet (fail)
            have HBD : Hid (Below w.heap.size w (wr.drewN nq)) := hide (below_drewN (unhide HB) nq)
            have HOD := hide (own_below (unhide HO) (below_drewN (Below.refl wr.heap.size wr) nq))
            have m0 : (wr.drewN nq).cell? ⟨b0, off0, none⟩ = some (.int .u32 (x : Int)) := c0'
            have m1 : (wr.drewN nq).cell? ⟨b1, off1, none⟩ = some (.int .u32 (x : Int)) := d0'
            clear HB HO c0' d0' hzr
            generalize wr.drewN nq = V at HBD HOD m0 m1 ⊢
            have hzr := (unhide HBD).size
            have HOW := hide (own_below (unhide HOD) ((Below.refl _ V).alloc (Nat.le_refl _) (.cells #[.int .u32 (x : Int)] 32)))
            go_wp2_with (at_builtin; refine wpList_append_own _ rfl _ _ 23 rfl w.heap.size 32 i0 (.int .u32 0) 1 4 Try.underlying23 hi hz0 hz1 hz2 rfl (by decide) _ _ _ rfl (unhide HOW) ⟨V.heap.size, 0, none⟩ 1 1 [.int .u32 (x : Int)] rfl rfl ?z1 ?z2 ?z3 ?z4 ?z5 ?_)
            case z1 =>
              intro j u hj
              exact new_cells _ _ _ _ rfl j u hj
            case z2 => intro u hu; simp at hu; subst hu; rfl
            case z3 => unfold maxLen; omega
            case z4 => omega
            case z5 => simp; omega
            intro v' w4 hown' hgrow _
            have HB4 := hide (below_own ((unhide HBD).alloc hzr (.cells #[.int .u32 (x : Int)] 32)) (unhide HOW) hgrow (by simp; omega))
            rw [← unhide HX9] at hown'
            have HO4 := hide hown'
            have k0 : w4.cell? ⟨b0, off0, none⟩ = some (.int .u32 (x : Int)) := ((unhide HB4).cell (p := ⟨b0, off0, none⟩) hlt0).trans c00
            have k1 : w4.cell? ⟨b1, off1, none⟩ = some (.int .u32 (x : Int)) := ((unhide HB4).cell (p := ⟨b1, off1, none⟩) hlt1).trans d00
            obtain ⟨aq, cq, hvq, hcq⟩ := own_sliceG hown'
            subst hvq
            clear hown' hgrow HOW HOD HBD m0 m1
            go_wp2
            exact ⟨⟨p, q, acc ++ [x], m + 1, hm9, HM9, hide (rowT (unhide HP) hcp0), hide (neatT hcp0), hide (rowT (unhide HQ) hcp1), hide (neatT hcp1), HA9, HL9, HO4, HF9, HB4⟩, by simp [slLen]; omega⟩
          · have hi1 : min (x : Int) (y : Int) = (y : Int) := by omega
            have hi2 : ((x : Int) == (y : Int)) = false := by simp; omega
            have HA9 : Hid ((acc ++ [y]) ++ mergeL (x :: p) q = mergeL a b) := hide (by rw [← unhide HA, merge_gt hxy, List.append_assoc]; rfl)
            have HL9 : Hid ((acc ++ [y]).length + ((x :: p)).length + (q).length ≤ a.length + b.length) := hide (by simp only [List.length_append, List.length_cons, List.length_nil]; omega)
            have HF9 : Hid (∀ z ∈ acc ++ [y], z ≤ 4294967295) := hide (by
              intro z hz
              rcases List.mem_append.1 hz with hz | hz
              · exact unhide HF z hz
              · rw [List.mem_singleton] at hz; rw [hz]; exact hfy)
            have HM9 : Hid (m + 1 = (acc ++ [y]).length) := hide (by rw [List.length_append, ← unhide HM]; rfl)
            have hm9 : m + 1 ≤ 131074 := by have h1 := unhide HM9; have h2 := unhide HL9; omega
            have hzr := (unhide HB).size
            have HX9 : Hid (flatG cells32 (acc ++ [y]) = flatG cells32 acc ++ [.int .u32 (y : Int)]) := hide (by rw [flatG_append, flatG_one]; rfl)
            obtain ⟨P, hP⟩ : ∃ P, P = p.length := ⟨_, rfl⟩
            obtain ⟨Q, hQ⟩ : ∃ Q, Q = q.length := ⟨_, rfl⟩
            simp only [List.length_cons]
            simp only [List.length_cons] at HP HQ HNP HNQ
            rw [← hP] at hcp0 HP HNP ⊢
            rw [← hQ] at hcp1 HQ HNQ ⊢
            have HPQ := hide (And.intro hP hQ)
            clear hP hQ HA HL HF HM hL
            go_wp2
            go_quiet (fail)
            have HBD : Hid (Below w.heap.size w (wr.drewN nq)) := hide (below_drewN (unhide HB) nq)
            have HOD := hide (own_below (unhide HO) (below_drewN (Below.refl wr.heap.size wr) nq))
            have m0 : (wr.drewN nq).cell? ⟨b0, off0, none⟩ = some (.int .u32 (x : Int)) := c0'
            have m1 : (wr.drewN nq).cell? ⟨b1, off1, none⟩ = some (.int .u32 (y : Int)) := d0'
            clear HB HO c0' d0' hzr
            generalize wr.drewN nq = V at HBD HOD m0 m1 ⊢
            have hzr := (unhide HBD).size
            have HOW := hide (own_below (unhide HOD) ((Below.refl _ V).alloc (Nat.le_refl _) (.cells #[.int .u32 (y : Int)] 32)))
            go_wp2_with (at_builtin; refine wpList_append_own _ rfl _ _ 23 rfl w.heap.size 32 i0 (.int .u32 0) 1 4 Try.underlying23 hi hz0 hz1 hz2 rfl (by decide) _ _ _ rfl (unhide HOW) ⟨V.heap.size, 0, none⟩ 1 1 [.int .u32 (y : Int)] rfl rfl ?y1 ?y2 ?y3 ?y4 ?y5 ?_)
            case y1 =>
              intro j u hj
              exact new_cells _ _ _ _ rfl j u hj
            case y2 => intro u hu; simp at hu; subst hu; rfl
            case y3 => unfold maxLen; omega
            case y4 => omega
            case y5 => simp; omega
            intro v' w4 hown' hgrow _
            have HB4 := hide (below_own ((unhide HBD).alloc hzr (.cells #[.int .u32 (y : Int)] 32)) (unhide HOW) hgrow (by simp; omega))
            rw [← unhide HX9] at hown'
            have HO4 := hide hown'
            have k0 : w4.cell? ⟨b0, off0, none⟩ = some (.int .u32 (x : Int)) := ((unhide HB4).cell (p := ⟨b0, off0, none⟩) hlt0).trans c00
            have k1 : w4.cell? ⟨b1, off1, none⟩ = some (.int .u32 (y : Int)) := ((unhide HB4).cell (p := ⟨b1, off1, none⟩) hlt1).trans d00
            obtain ⟨aq, cq, hvq, hcq⟩ := own_sliceG hown'
            subst hvq
            clear hown' hgrow HOW HOD HBD m0 m1
            go_wp2
            exact ⟨⟨x :: p, q, acc ++ [y], m + 1, hm9, HM9, HP, HNP, hide (rowT (unhide HQ) hcp1), hide (neatT hcp1), HA9, HL9, HO4, HF9, HB4⟩, by simp [slLen]⟩
end Go.Proofs.Ytghgpgeopdhcnaa
