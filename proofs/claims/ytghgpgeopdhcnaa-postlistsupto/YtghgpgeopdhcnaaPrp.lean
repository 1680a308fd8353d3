/-
  What the document's put of layer 13 does, over this seat's program.
-/
import Derived.Test.YtghgpgeopdhcnaaPra
import Derived.Test.YtghgpgeopdhcnaaPou
set_option linter.unusedVariables false
namespace Go.Proofs.Ytghgpgeopdhcnaa
open Go.RowKit Go.Proofs.Num Go.Proofs.Dct Go.Proofs.Pst

theorem putO_hit : ∀ (l : List Nat) (n c : Nat) (hc : c < l.length), (∀ (j : Nat) (h : j < l.length), j < c → l[j] < n) → l[c] = n → putO l n = l := by
  intro l
  induction l with
  | nil => intro n c hc; simp at hc
  | cons x r ih =>
    intro n c hc h1 h2
    rw [putO]
    cases c with
    | zero => rw [if_neg (by simp at h2; omega), if_pos (by simpa using h2)]
    | succ c =>
      have hx := h1 0 (by simp) (by omega)
      simp only [List.getElem_cons_zero] at hx
      rw [if_pos hx, ih n c (by simpa using hc) (fun j h hj => by have := h1 (j + 1) (by simpa using h) (by omega); simpa using this) (by simpa using h2)]
theorem putO_miss : ∀ (l : List Nat) (n c : Nat), c ≤ l.length → (∀ (j : Nat) (h : j < l.length), j < c → l[j] < n) → (∀ h : c < l.length, n < l[c]) → putO l n = l.take c ++ [n] ++ l.drop c := by
  intro l
  induction l with
  | nil =>
    intro n c hc _ _
    have : c = 0 := by simpa using hc
    subst this
    rfl
  | cons x r ih =>
    intro n c hc h1 h2
    rw [putO]
    cases c with
    | zero =>
      have := h2 (by simp)
      simp only [List.getElem_cons_zero] at this
      rw [if_neg (by omega), if_neg (by omega)]
      rfl
    | succ c =>
      have hx := h1 0 (by simp) (by omega)
      simp only [List.getElem_cons_zero] at hx
      rw [if_pos hx, ih n c (by simpa using hc) (fun j h hj => by have := h1 (j + 1) (by simpa using h) (by omega); simpa using this) (fun h => by have := h2 (by simpa using h); simpa using this)]
      simp

theorem step_append_ownP {P : Program} {ops : Array Oper} {o : Oper} {a : Act} {w : World} {K : Act → World → Prop} {Q : Exit → Act → World → Prop} {E : Prop} (hgd : o.guard = none) (s x : Operand) (t : TypeId)
    (ho : o.op = .call { callee := .builtin .append, args := #[s, x], argTypes := #[t, t] })
    (base : Nat) (e : TypeId) (i : TypeInfo) (z : Value) (size bytes : Nat) (ht : P.underlying t = some (.slice e)) (hi : P.info? e = some i) (hz : i.zero = some z)
    (hsize : i.size = size) (hby : i.bytes = bytes) (hzs : z.cells.size = size) (hsz : 0 < size)
    (v : Value) (n : Nat) (xs : List Value) (hs : a.eval s = v) (hown : w.ownsRow base e size v n xs)
    (ad : Addr) (m c : Nat) (news : List Value) (hx : a.eval x = .slice (some ad) m c) (hl : news.length = m * size) (hnews : ∀ j u, news[j]? = some u → w.cell? (ad.add j) = some u) (h1 : ∀ u ∈ news, u.oneCell' = true)
    (h63 : n + m ≤ maxLen) (hbytes : (n + m) * bytes ≤ 140737488355328) (hbase : base ≤ w.heap.size)
    (h : ∀ v' w', w'.ownsRow base e size v' (n + m) (xs ++ news) → w.grownBy w' v.ownBlock → K (a.put o.dst v') w') :
    if Region.wanted o (yielded ops a.tmps) = true then Oper.wp P o a w K Q else E := by
  have hw : Region.wanted o (yielded ops a.tmps) = true := by simp [Region.wanted, hgd]
  rw [if_pos hw]
  exact wp_append_own w s x t ho base e i z size bytes ht hi hz hsize hby hzs hsz v n xs hs hown ad m c news hx hl hnews h1 h63 hbytes hbase fun v' w' h2 h3 _ => h v' w' h2 h3

theorem step_append_noneP {P : Program} {ops : Array Oper} {o : Oper} {a : Act} {w : World} {K : Act → World → Prop} {Q : Exit → Act → World → Prop} {E : Prop} (hgd : o.guard = none) (s x : Operand) (t : TypeId)
    (ho : o.op = .call { callee := .builtin .append, args := #[s, x], argTypes := #[t, t] })
    (base : Nat) (e : TypeId) (i : TypeInfo) (size : Nat) (ht : P.underlying t = some (.slice e)) (hi : P.info? e = some i)
    (v : Value) (n : Nat) (xs : List Value) (hs : a.eval s = v) (hown : w.ownsRow base e size v n xs) (hx : a.eval x = .slice none 0 0) (h : K (a.put o.dst v) w) :
    if Region.wanted o (yielded ops a.tmps) = true then Oper.wp P o a w K Q else E := by
  have hw : Region.wanted o (yielded ops a.tmps) = true := by simp [Region.wanted, hgd]
  rw [if_pos hw]
  have hrun := run_append_owned_none (P := P) (w := w) base t o.type e i size ht hi v n xs hown
  unfold Oper.wp
  simp [execOp, ho, resolve, invoke, builtin, hs, hx, hrun, Result.andThen]
  exact h
theorem own_emptyP {X : World} {B g : Nat} (hX : X.heap[g]? = some (.cells #[] 32 (0, 0))) (hg : B ≤ g) : X.ownsRow B 32 1 (.slice (some ⟨g, 0, none⟩) 0 0) 0 [] :=
  ⟨rfl, Or.inr ⟨g, 0, #[], rfl, hg, hX, Nat.le_refl _, by unfold maxLen; omega, rfl, rfl⟩⟩
theorem cells_part {w X : World} {b off T cap : Nat} {l : List Nat} (h : Row32 w (.slice (some ⟨b, off, none⟩) T cap) l) (hb : Below w.heap.size w X) (i k : Nat) : ∀ (j : Nat) (u : Value), (flatG cells32 ((l.drop i).take k))[j]? = some u → X.cell? (Addr.add ⟨b, off + i, none⟩ j) = some u := by
  intro j u hj
  obtain ⟨a, c, hv, hl, hf, hc⟩ := h
  injection hv with e1 e2 e3
  rcases hc with hc | ⟨b2, off2, ha2, hlt, hc⟩
  · subst hc; simp [flatG] at hj
  · rw [← e1] at ha2
    injection ha2 with e4
    injection e4 with e5 e6
    subst e5 e6
    rw [flatG_take cells32_len, flatG_drop cells32_len, List.getElem?_take] at hj
    split at hj
    · rw [List.getElem?_drop, Nat.mul_one] at hj
      rw [add_off0, hb.cell (p := ⟨b, off + i + j, none⟩) hlt, Nat.add_assoc]
      exact hc _ _ hj
    · cases hj
theorem put_flat {l : List Nat} {n c T : Nat} (h : putO l n = l.take c ++ [n] ++ l.drop c) (hT : T = l.length) (hc : c ≤ T) : [] ++ flatG cells32 ((l.drop 0).take c) ++ [.int .u32 (n : Int)] ++ flatG cells32 ((l.drop c).take (T - c)) = flatG cells32 (putO l n) ∧ 0 + c + 1 + (T - c) = (putO l n).length := by
  subst hT
  refine ⟨?_, ?_⟩
  · rw [h, List.drop_zero, List.nil_append, List.take_of_length_le (l := l.drop c) (by rw [List.length_drop]; omega), flatG_append, flatG_append, flatG_one]
    rfl
  · rw [h, List.length_append, List.length_append, List.length_take, List.length_drop]
    simp only [List.length_cons, List.length_nil]
    omega
theorem put_flat0 {l : List Nat} {n T : Nat} (h : putO l n = l.take T ++ [n] ++ l.drop T) (hT : T = l.length) : [] ++ flatG cells32 ((l.drop 0).take T) ++ [.int .u32 (n : Int)] ++ [] = flatG cells32 (putO l n) ∧ 0 + T + 1 + 0 = (putO l n).length := by
  subst hT
  refine ⟨?_, ?_⟩
  · rw [h, List.drop_zero, List.nil_append, List.append_nil, List.drop_length, List.append_nil, flatG_append, flatG_one]
    rfl
  · rw [h, List.drop_length, List.append_nil, List.length_append, List.take_length]
    simp
theorem one_at {X : World} {g : Nat} {u0 : Value} (h : X.cell? ⟨g, 0, none⟩ = some u0) : ∀ (j : Nat) (u : Value), [u0][j]? = some u → X.cell? (Addr.add ⟨g, 0, none⟩ j) = some u := by
  intro j u hj
  match j, hj with
  | 0, hj =>
    simp at hj
    subst hj
    rw [add_off0]
    exact h
  | j + 1, hj => simp at hj
theorem one_cells (l : List Nat) : ∀ u ∈ flatG cells32 l, u.oneCell' = true := by
  intro u hu
  obtain ⟨n, _, hn⟩ := List.mem_flatMap.1 hu
  simp only [cells32, List.mem_cons, List.not_mem_nil, or_false] at hn
  subst hn
  rfl

set_option maxHeartbeats 1000000 in
set_option maxRecDepth 100000 in
theorem putD_any (v : Value) (l : List Nat) (n : Nat) (w : World) (h : Row32 w v l) (hnt : NeatS v) (hr : rises 0 l = true) (hn : n ≤ 4294967295) (hl : l.length ≤ 4194303) :
    Calls Try.prog 33 #[v, .int .u32 (n : Int)] w fun e w' => ∃ v', e = .returned v' ∧ Row32 w' v' (putO l n) ∧ NeatS v' ∧ Below w.heap.size w w' := by
  obtain ⟨i0, hi, hz0, hz1, hz2⟩ := info_parts u32Info
  have HR := hide h
  have HN := hide hnt
  have HRS := hide hr
  obtain ⟨a, cap, hv, _, hfit, _⟩ := h
  subst hv
  have HFT := hide hfit
  have hcap := hnt.2 _ _ _ rfl
  obtain ⟨T, hT⟩ : ∃ T, T = l.length := ⟨_, rfl⟩
  rw [← hT] at HR HN hl hcap ⊢
  have HTL := hide hT
  clear hT hfit hnt hr
  go_enter Try.func33, Try.ntmps33
  go_wp2
  go_loopw [5] (fun z wr => ∃ c : Nat, z = .int .i64 (c : Int) ∧ c ≤ T ∧ Hid (∀ (j : Nat) (h : j < l.length), j < c → l[j] < n) ∧ wr = w) (fun z _ => T - (intOf z).toNat)
  case atStart => exact ⟨0, rfl, Nat.zero_le _, hide (fun j h hj => by omega), rfl⟩
  case round =>
    obtain ⟨c, rfl, hc, HA, hwr⟩ := hrel
    subst hwr
    by_cases hlt : c < T
    · have hlt1 : (c : Int) < (T : Int) := by omega
      have hcl : c < l.length := by have := unhide HTL; omega
      obtain ⟨b, off, cap', hv', hblt, hcell⟩ := RowG.at cells32_len (unhide HR) (j := c) hcl
      injection hv' with e1 e2 e3
      subst e1
      have c0 := hcell 0 (by omega)
      simp only [cells32, List.getElem?_cons_zero, Nat.add_zero, Nat.mul_one] at c0
      clear e2 e3 hcell
      have hx := unhide HFT l[c] (List.getElem_mem hcl)
      rcases Nat.lt_trichotomy l[c] n with hxn | hxn | hxn
      · have HA9 : Hid (∀ (j : Nat) (h : j < l.length), j < c + 1 → l[j] < n) := hide (by
          intro j h hj
          by_cases he : j = c
          · subst he; exact hxn
          · exact unhide HA j h (by omega))
        generalize l[c] = x at c0 hx hxn
        have hxi : (x : Int) < (n : Int) := by omega
        clear HA hxn
        go_wp2
        exact ⟨⟨c + 1, by go_num, by omega, HA9, trivial⟩, by simp [intOf]; omega⟩
      · have hfin := putO_hit l n c hcl (unhide HA) hxn
        have HF := hide hfin
        generalize l[c] = x at c0 hx hxn
        subst hxn
        have hxb : ((x : Int) == (x : Int)) = true := by simp
        clear HA hfin
        go_wp2
        go_ret
        exact ⟨_, rfl, by rw [unhide HF]; exact unhide HR, unhide HN, Below.refl _ _⟩
      · have hfin := putO_miss l n c (by omega) (unhide HA) (fun _ => hxn)
        have HF := hide hfin
        generalize l[c] = x at c0 hx hxn
        have hxi : ¬ (x : Int) < (n : Int) := by omega
        have hxb : ((x : Int) == (n : Int)) = false := by simp; omega
        have hcc : ¬ cap = c := by omega
        have hci : (c : Int) ≤ (cap : Int) := by omega
        have hcn : c ≤ cap := by omega
        have hcT : (c : Int) ≤ (T : Int) := by omega
        clear HA hfin hxn
        go_wp2
        have hp1 : (flatG cells32 ((l.drop 0).take c)).length = c * 1 := by rw [flatG_length cells32_len, List.length_take, List.length_drop]; have := unhide HTL; omega
        have hp3 : (flatG cells32 ((l.drop c).take (T - c))).length = (T - c) * 1 := by rw [flatG_length cells32_len, List.length_take, List.length_drop]; have := unhide HTL; omega
        have HFL := hide (put_flat (c := c) (T := T) (unhide HF) (unhide HTL) (by omega))
        have HFX : Hid (∀ z ∈ putO l n, z ≤ 4294967295) := hide (fun z hz => by
          rcases (putO_mem l n z).1 hz with h | h
          · exact unhide HFT z h
          · omega)
        have hB0 : Below wr.heap.size wr (wr.alloc (.cells #[] 32)).drew := (below_alloc wr _).drew
        have hOE : (wr.alloc (.cells #[] 32)).drew.ownsRow wr.heap.size 32 1 (.slice (some ⟨wr.heap.size, 0, none⟩) 0 0) 0 [] := own_emptyP (Blk.new wr 32 #[]) (Nat.le_refl _)
        have HB0 := hide hB0
        have HOE := hide hOE
        clear hB0 hOE
        have HB02 : Hid (Below wr.heap.size wr ((wr.alloc (.cells #[] 32)).alloc (.cells #[.int .u32 (n : Int)] 32)).drew) := hide (belows' (below_alloc wr _) (below_alloc _ _)).drew
        have HOE2 : Hid (((wr.alloc (.cells #[] 32)).alloc (.cells #[.int .u32 (n : Int)] 32)).drew.ownsRow wr.heap.size 32 1 (.slice (some ⟨wr.heap.size, 0, none⟩) 0 0) 0 []) := hide (own_emptyP ((Blk.new wr 32 #[]).below (below_alloc _ _).drew) (Nat.le_refl _))
        have HN2 : Hid (((wr.alloc (.cells #[] 32)).alloc (.cells #[.int .u32 (n : Int)] 32)).drew.heap[wr.heap.size + 1]? = some (.cells #[.int .u32 (n : Int)] 32 (0, 0))) := hide (by have h := Blk.new (wr.alloc (.cells #[] 32)) 32 #[.int .u32 (n : Int)]; rwa [show (wr.alloc (.cells #[] 32)).heap.size = wr.heap.size + 1 by simp] at h)
        have HB03 : Hid (Below wr.heap.size wr ((wr.alloc (.cells #[.int .u32 (n : Int)] 32)).alloc (.cells #[] 32)).drew) := hide (belows' (below_alloc wr _) (below_alloc _ _)).drew
        have HOE3 : Hid (((wr.alloc (.cells #[.int .u32 (n : Int)] 32)).alloc (.cells #[] 32)).drew.ownsRow wr.heap.size 32 1 (.slice (some ⟨wr.heap.size + 1, 0, none⟩) 0 0) 0 []) := hide (own_emptyP (by have h := Blk.new (wr.alloc (.cells #[.int .u32 (n : Int)] 32)) 32 #[]; rwa [show (wr.alloc (.cells #[.int .u32 (n : Int)] 32)).heap.size = wr.heap.size + 1 by simp] at h) (by omega))
        have HN3 : Hid (((wr.alloc (.cells #[.int .u32 (n : Int)] 32)).alloc (.cells #[] 32)).drew.heap[wr.heap.size]? = some (.cells #[.int .u32 (n : Int)] 32 (0, 0))) := hide ((Blk.new wr 32 #[.int .u32 (n : Int)]).below (below_alloc _ _).drew)
        go_region_law (first
          | (refine step_append_ownP rfl (.tmp 33) (.tmp 36) 23 rfl wr.heap.size 32 i0 (.int .u32 0) 1 4 Try.underlying23 hi hz0 hz1 hz2 rfl (by decide) (.slice (some ⟨wr.heap.size, 0, none⟩) 0 0) 0 [] (by simp [Act.eval]) (unhide HOE2) ⟨b, off, none⟩ c cap (flatG cells32 ((l.drop 0).take c)) (by simp [Act.eval]) hp1 (cells_part (unhide HR) (unhide HB02) 0 c) (one_cells _) (by unfold maxLen; omega) (by omega) (by simp; omega) ?_
             intro v1 w1 hown1 hgrow1
             have hB1 : Below wr.heap.size wr w1 := below_own (unhide HB02) (unhide HOE2) hgrow1 (by simp; omega)
             have hN1 : w1.cell? ⟨wr.heap.size + 1, 0, none⟩ = some (.int .u32 (n : Int)) := (Lib.cell_of_heap ((hgrow1.block (wr.heap.size + 1) (by simp) (by simp [Value.ownBlock])).trans (unhide HN2)) 0).trans rfl)
          | (refine step_append_ownP rfl (.tmp 33) (.tmp 36) 23 rfl wr.heap.size 32 i0 (.int .u32 0) 1 4 Try.underlying23 hi hz0 hz1 hz2 rfl (by decide) (.slice (some ⟨wr.heap.size + 1, 0, none⟩) 0 0) 0 [] (by simp [Act.eval]) (unhide HOE3) ⟨b, off, none⟩ c cap (flatG cells32 ((l.drop 0).take c)) (by simp [Act.eval]) hp1 (cells_part (unhide HR) (unhide HB03) 0 c) (one_cells _) (by unfold maxLen; omega) (by omega) (by simp; omega) ?_
             intro v1 w1 hown1 hgrow1
             have hB1 : Below wr.heap.size wr w1 := below_own (unhide HB03) (unhide HOE3) hgrow1 (by simp; omega)
             have hN1 : w1.cell? ⟨wr.heap.size, 0, none⟩ = some (.int .u32 (n : Int)) := (Lib.cell_of_heap ((hgrow1.block wr.heap.size (by simp; omega) (by simp [Value.ownBlock])).trans (unhide HN3)) 0).trans rfl)
          | (refine step_append_ownP rfl (.tmp 37) (.tmp 39) 23 rfl wr.heap.size 32 i0 (.int .u32 0) 1 4 Try.underlying23 hi hz0 hz1 hz2 rfl (by decide) v1 (0 + c) ([] ++ flatG cells32 ((l.drop 0).take c)) (by simp [Act.eval]) hown1 ⟨wr.heap.size + 1, 0, none⟩ 1 1 [.int .u32 (n : Int)] (by simp [Act.eval]) rfl (one_at hN1) (by intro u hu; simp at hu; subst hu; rfl) (by unfold maxLen; omega) (by omega) hB1.size ?_
             intro v2 w2 hown2 hgrow2
             have hB2 : Below wr.heap.size wr w2 := below_own hB1 hown1 hgrow2 hB1.size)
          | (refine step_append_ownP rfl (.tmp 37) (.tmp 39) 23 rfl wr.heap.size 32 i0 (.int .u32 0) 1 4 Try.underlying23 hi hz0 hz1 hz2 rfl (by decide) v1 (0 + c) ([] ++ flatG cells32 ((l.drop 0).take c)) (by simp [Act.eval]) hown1 ⟨wr.heap.size, 0, none⟩ 1 1 [.int .u32 (n : Int)] (by simp [Act.eval]) rfl (one_at hN1) (by intro u hu; simp at hu; subst hu; rfl) (by unfold maxLen; omega) (by omega) hB1.size ?_
             intro v2 w2 hown2 hgrow2
             have hB2 : Below wr.heap.size wr w2 := below_own hB1 hown1 hgrow2 hB1.size)
          | (refine step_append_ownP rfl (.tmp 33) (.tmp 36) 23 rfl wr.heap.size 32 i0 (.int .u32 0) 1 4 Try.underlying23 hi hz0 hz1 hz2 rfl (by decide) (.slice (some ⟨wr.heap.size, 0, none⟩) 0 0) 0 [] (by simp [Act.eval]) (unhide HOE) ⟨b, off, none⟩ c cap (flatG cells32 ((l.drop 0).take c)) (by simp [Act.eval]) hp1 (cells_part (unhide HR) (unhide HB0) 0 c) (one_cells _) (by unfold maxLen; omega) (by omega) (by simp) ?_
             intro v1 w1 hown1 hgrow1
             have hB1 : Below wr.heap.size wr w1 := below_own (unhide HB0) (unhide HOE) hgrow1 (by simp))
          | (refine step_append_ownP rfl (.tmp 37) (.tmp 39) 23 rfl wr.heap.size 32 i0 (.int .u32 0) 1 4 Try.underlying23 hi hz0 hz1 hz2 rfl (by decide) v1 (0 + c) ([] ++ flatG cells32 ((l.drop 0).take c)) (by simp [Act.eval]) (own_below hown1 (below_alloc w1 (.cells #[.int .u32 (n : Int)] 32))) ⟨w1.heap.size, 0, none⟩ 1 1 [.int .u32 (n : Int)] (by simp [Act.eval]) rfl (fun j u hj => new_cells w1 32 #[.int .u32 (n : Int)] _ rfl j u hj) (by intro u hu; simp at hu; subst hu; rfl) (by unfold maxLen; omega) (by omega) (by have := hB1.size; simp; omega) ?_
             intro v2 w2 hown2 hgrow2
             have hB2 : Below wr.heap.size wr w2 := below_own (hB1.alloc hB1.size (.cells #[.int .u32 (n : Int)] 32)) (own_below hown1 (below_alloc w1 (.cells #[.int .u32 (n : Int)] 32))) hgrow2 (by have := hB1.size; simp; omega))
          | (refine step_append_ownP rfl (.tmp 40) (.tmp 43) 23 rfl wr.heap.size 32 i0 (.int .u32 0) 1 4 Try.underlying23 hi hz0 hz1 hz2 rfl (by decide) v2 (0 + c + 1) ([] ++ flatG cells32 ((l.drop 0).take c) ++ [.int .u32 (n : Int)]) (by simp [Act.eval]) hown2 ⟨b, off + c, none⟩ (T - c) (cap - c) (flatG cells32 ((l.drop c).take (T - c))) (by simp [Act.eval]) hp3 (cells_part (unhide HR) hB2 c (T - c)) (one_cells _) (by unfold maxLen; omega) (by omega) hB2.size ?_
             intro v3 w3 hown3 hgrow3
             have hB3 : Below wr.heap.size wr w3 := below_own hB2 hown2 hgrow3 hB2.size))
        all_goals
          rw [(unhide HFL).1, (unhide HFL).2] at hown3
          have HRW := hide (row32_of hown3 (by rw [← (unhide HFL).2]; omega) (unhide HFX))
          have HNW := hide (own_neat hown3)
          have HBW := hide hB3
          clear hown1 hown2 hown3 hgrow1 hgrow2 hgrow3 hB1 hB2 hB3 HOE HOE2 HOE3 HB0 HB02 HB03 HN2 HN3 hp1 hp3
          (try go_simp)
          (try go_wp2)
          go_ret
          exact ⟨_, rfl, unhide HRW, unhide HNW, unhide HBW⟩
    · have hce : c = T := by omega
      have hfin := putO_miss l n T (by have := unhide HTL; omega) (by rw [← hce]; exact unhide HA) (fun h => by have := unhide HTL; omega)
      have HF := hide hfin
      clear hfin HA
      rw [hce]
      clear hce hc hlt
      have hlt1 : ¬ (T : Int) < (T : Int) := by omega
      by_cases hT0 : 0 < T
      · obtain ⟨b, off, cap', hv', hblt, hcell⟩ := RowG.at cells32_len (unhide HR) (j := 0) (by have := unhide HTL; omega)
        injection hv' with e1 e2 e3
        subst e1
        clear hcell e2 e3
        have hci : (T : Int) ≤ (cap : Int) := by omega
        by_cases hcc : cap = T
        · have hcc2 : T = cap := hcc.symm
          subst hcc2
          clear hcc
          go_wp2
          have hp1 : (flatG cells32 ((l.drop 0).take T)).length = T * 1 := by rw [flatG_length cells32_len, List.length_take, List.length_drop]; have := unhide HTL; omega
          have HFL := hide (put_flat0 (unhide HF) (unhide HTL))
          have HFX : Hid (∀ z ∈ putO l n, z ≤ 4294967295) := hide (fun z hz => by
            rcases (putO_mem l n z).1 hz with h | h
            · exact unhide HFT z h
            · omega)
          have hB0 : Below wr.heap.size wr (wr.alloc (.cells #[] 32)).drew := (below_alloc wr _).drew
          have hOE : (wr.alloc (.cells #[] 32)).drew.ownsRow wr.heap.size 32 1 (.slice (some ⟨wr.heap.size, 0, none⟩) 0 0) 0 [] := own_emptyP (Blk.new wr 32 #[]) (Nat.le_refl _)
          have HB0 := hide hB0
          have HOE := hide hOE
          clear hB0 hOE
          have HB02 : Hid (Below wr.heap.size wr ((wr.alloc (.cells #[] 32)).alloc (.cells #[.int .u32 (n : Int)] 32)).drew) := hide (belows' (below_alloc wr _) (below_alloc _ _)).drew
          have HOE2 : Hid (((wr.alloc (.cells #[] 32)).alloc (.cells #[.int .u32 (n : Int)] 32)).drew.ownsRow wr.heap.size 32 1 (.slice (some ⟨wr.heap.size, 0, none⟩) 0 0) 0 []) := hide (own_emptyP ((Blk.new wr 32 #[]).below (below_alloc _ _).drew) (Nat.le_refl _))
          have HN2 : Hid (((wr.alloc (.cells #[] 32)).alloc (.cells #[.int .u32 (n : Int)] 32)).drew.heap[wr.heap.size + 1]? = some (.cells #[.int .u32 (n : Int)] 32 (0, 0))) := hide (by have h := Blk.new (wr.alloc (.cells #[] 32)) 32 #[.int .u32 (n : Int)]; rwa [show (wr.alloc (.cells #[] 32)).heap.size = wr.heap.size + 1 by simp] at h)
          have HB03 : Hid (Below wr.heap.size wr ((wr.alloc (.cells #[.int .u32 (n : Int)] 32)).alloc (.cells #[] 32)).drew) := hide (belows' (below_alloc wr _) (below_alloc _ _)).drew
          have HOE3 : Hid (((wr.alloc (.cells #[.int .u32 (n : Int)] 32)).alloc (.cells #[] 32)).drew.ownsRow wr.heap.size 32 1 (.slice (some ⟨wr.heap.size + 1, 0, none⟩) 0 0) 0 []) := hide (own_emptyP (by have h := Blk.new (wr.alloc (.cells #[.int .u32 (n : Int)] 32)) 32 #[]; rwa [show (wr.alloc (.cells #[.int .u32 (n : Int)] 32)).heap.size = wr.heap.size + 1 by simp] at h) (by omega))
          have HN3 : Hid (((wr.alloc (.cells #[.int .u32 (n : Int)] 32)).alloc (.cells #[] 32)).drew.heap[wr.heap.size]? = some (.cells #[.int .u32 (n : Int)] 32 (0, 0))) := hide ((Blk.new wr 32 #[.int .u32 (n : Int)]).below (below_alloc _ _).drew)
          go_region_law (first
            | (refine step_append_ownP rfl (.tmp 33) (.tmp 36) 23 rfl wr.heap.size 32 i0 (.int .u32 0) 1 4 Try.underlying23 hi hz0 hz1 hz2 rfl (by decide) (.slice (some ⟨wr.heap.size, 0, none⟩) 0 0) 0 [] (by simp [Act.eval]) (unhide HOE2) ⟨b, off, none⟩ T T (flatG cells32 ((l.drop 0).take T)) (by simp [Act.eval]) hp1 (cells_part (unhide HR) (unhide HB02) 0 T) (one_cells _) (by unfold maxLen; omega) (by omega) (by simp; omega) ?_
               intro v1 w1 hown1 hgrow1
               have hB1 : Below wr.heap.size wr w1 := below_own (unhide HB02) (unhide HOE2) hgrow1 (by simp; omega)
               have hN1 : w1.cell? ⟨wr.heap.size + 1, 0, none⟩ = some (.int .u32 (n : Int)) := (Lib.cell_of_heap ((hgrow1.block (wr.heap.size + 1) (by simp) (by simp [Value.ownBlock])).trans (unhide HN2)) 0).trans rfl)
            | (refine step_append_ownP rfl (.tmp 33) (.tmp 36) 23 rfl wr.heap.size 32 i0 (.int .u32 0) 1 4 Try.underlying23 hi hz0 hz1 hz2 rfl (by decide) (.slice (some ⟨wr.heap.size + 1, 0, none⟩) 0 0) 0 [] (by simp [Act.eval]) (unhide HOE3) ⟨b, off, none⟩ T T (flatG cells32 ((l.drop 0).take T)) (by simp [Act.eval]) hp1 (cells_part (unhide HR) (unhide HB03) 0 T) (one_cells _) (by unfold maxLen; omega) (by omega) (by simp; omega) ?_
               intro v1 w1 hown1 hgrow1
               have hB1 : Below wr.heap.size wr w1 := below_own (unhide HB03) (unhide HOE3) hgrow1 (by simp; omega)
               have hN1 : w1.cell? ⟨wr.heap.size, 0, none⟩ = some (.int .u32 (n : Int)) := (Lib.cell_of_heap ((hgrow1.block wr.heap.size (by simp; omega) (by simp [Value.ownBlock])).trans (unhide HN3)) 0).trans rfl)
            | (refine step_append_ownP rfl (.tmp 37) (.tmp 39) 23 rfl wr.heap.size 32 i0 (.int .u32 0) 1 4 Try.underlying23 hi hz0 hz1 hz2 rfl (by decide) v1 (0 + T) ([] ++ flatG cells32 ((l.drop 0).take T)) (by simp [Act.eval]) hown1 ⟨wr.heap.size + 1, 0, none⟩ 1 1 [.int .u32 (n : Int)] (by simp [Act.eval]) rfl (one_at hN1) (by intro u hu; simp at hu; subst hu; rfl) (by unfold maxLen; omega) (by omega) hB1.size ?_
               intro v2 w2 hown2 hgrow2
               have hB2 : Below wr.heap.size wr w2 := below_own hB1 hown1 hgrow2 hB1.size)
            | (refine step_append_ownP rfl (.tmp 37) (.tmp 39) 23 rfl wr.heap.size 32 i0 (.int .u32 0) 1 4 Try.underlying23 hi hz0 hz1 hz2 rfl (by decide) v1 (0 + T) ([] ++ flatG cells32 ((l.drop 0).take T)) (by simp [Act.eval]) hown1 ⟨wr.heap.size, 0, none⟩ 1 1 [.int .u32 (n : Int)] (by simp [Act.eval]) rfl (one_at hN1) (by intro u hu; simp at hu; subst hu; rfl) (by unfold maxLen; omega) (by omega) hB1.size ?_
               intro v2 w2 hown2 hgrow2
               have hB2 : Below wr.heap.size wr w2 := below_own hB1 hown1 hgrow2 hB1.size)
            | (refine step_append_ownP rfl (.tmp 33) (.tmp 36) 23 rfl wr.heap.size 32 i0 (.int .u32 0) 1 4 Try.underlying23 hi hz0 hz1 hz2 rfl (by decide) (.slice (some ⟨wr.heap.size, 0, none⟩) 0 0) 0 [] (by simp [Act.eval]) (unhide HOE) ⟨b, off, none⟩ T T (flatG cells32 ((l.drop 0).take T)) (by simp [Act.eval]) hp1 (cells_part (unhide HR) (unhide HB0) 0 T) (one_cells _) (by unfold maxLen; omega) (by omega) (by simp) ?_
               intro v1 w1 hown1 hgrow1
               have hB1 : Below wr.heap.size wr w1 := below_own (unhide HB0) (unhide HOE) hgrow1 (by simp))
            | (refine step_append_ownP rfl (.tmp 37) (.tmp 39) 23 rfl wr.heap.size 32 i0 (.int .u32 0) 1 4 Try.underlying23 hi hz0 hz1 hz2 rfl (by decide) v1 (0 + T) ([] ++ flatG cells32 ((l.drop 0).take T)) (by simp [Act.eval]) (own_below hown1 (below_alloc w1 (.cells #[.int .u32 (n : Int)] 32))) ⟨w1.heap.size, 0, none⟩ 1 1 [.int .u32 (n : Int)] (by simp [Act.eval]) rfl (fun j u hj => new_cells w1 32 #[.int .u32 (n : Int)] _ rfl j u hj) (by intro u hu; simp at hu; subst hu; rfl) (by unfold maxLen; omega) (by omega) (by have := hB1.size; simp; omega) ?_
               intro v2 w2 hown2 hgrow2
               have hB2 : Below wr.heap.size wr w2 := below_own (hB1.alloc hB1.size (.cells #[.int .u32 (n : Int)] 32)) (own_below hown1 (below_alloc w1 (.cells #[.int .u32 (n : Int)] 32))) hgrow2 (by have := hB1.size; simp; omega))
            | (refine step_append_ownP rfl (.tmp 40) (.tmp 43) 23 rfl wr.heap.size 32 i0 (.int .u32 0) 1 4 Try.underlying23 hi hz0 hz1 hz2 rfl (by decide) v2 (0 + T + 1) ([] ++ flatG cells32 ((l.drop 0).take T) ++ [.int .u32 (n : Int)]) (by simp [Act.eval]) hown2 ⟨b, off, none⟩ 0 0 [] (by simp [Act.eval]) rfl (fun j u hj => by simp at hj) (fun u hu => by simp at hu) (by unfold maxLen; omega) (by omega) hB2.size ?_
               intro v3 w3 hown3 hgrow3
               have hB3 : Below wr.heap.size wr w3 := below_own hB2 hown2 hgrow3 hB2.size))
          all_goals
            rw [(unhide HFL).1, (unhide HFL).2] at hown3
            have HRW := hide (row32_of hown3 (by rw [← (unhide HFL).2]; omega) (unhide HFX))
            have HNW := hide (own_neat hown3)
            have HBW := hide hB3
            clear hown1 hown2 hown3 hgrow1 hgrow2 hgrow3 hB1 hB2 hB3 HOE HOE2 HOE3 HB0 HB02 HB03 HN2 HN3 hp1
            (try go_simp)
            (try go_wp2)
            go_ret
            exact ⟨_, rfl, unhide HRW, unhide HNW, unhide HBW⟩
        · go_wp2
          have hp1 : (flatG cells32 ((l.drop 0).take T)).length = T * 1 := by rw [flatG_length cells32_len, List.length_take, List.length_drop]; have := unhide HTL; omega
          have HFL := hide (put_flat0 (unhide HF) (unhide HTL))
          have HFX : Hid (∀ z ∈ putO l n, z ≤ 4294967295) := hide (fun z hz => by
            rcases (putO_mem l n z).1 hz with h | h
            · exact unhide HFT z h
            · omega)
          have hB0 : Below wr.heap.size wr (wr.alloc (.cells #[] 32)).drew := (below_alloc wr _).drew
          have hOE : (wr.alloc (.cells #[] 32)).drew.ownsRow wr.heap.size 32 1 (.slice (some ⟨wr.heap.size, 0, none⟩) 0 0) 0 [] := own_emptyP (Blk.new wr 32 #[]) (Nat.le_refl _)
          have HB0 := hide hB0
          have HOE := hide hOE
          clear hB0 hOE
          have HB02 : Hid (Below wr.heap.size wr ((wr.alloc (.cells #[] 32)).alloc (.cells #[.int .u32 (n : Int)] 32)).drew) := hide (belows' (below_alloc wr _) (below_alloc _ _)).drew
          have HOE2 : Hid (((wr.alloc (.cells #[] 32)).alloc (.cells #[.int .u32 (n : Int)] 32)).drew.ownsRow wr.heap.size 32 1 (.slice (some ⟨wr.heap.size, 0, none⟩) 0 0) 0 []) := hide (own_emptyP ((Blk.new wr 32 #[]).below (below_alloc _ _).drew) (Nat.le_refl _))
          have HN2 : Hid (((wr.alloc (.cells #[] 32)).alloc (.cells #[.int .u32 (n : Int)] 32)).drew.heap[wr.heap.size + 1]? = some (.cells #[.int .u32 (n : Int)] 32 (0, 0))) := hide (by have h := Blk.new (wr.alloc (.cells #[] 32)) 32 #[.int .u32 (n : Int)]; rwa [show (wr.alloc (.cells #[] 32)).heap.size = wr.heap.size + 1 by simp] at h)
          have HB03 : Hid (Below wr.heap.size wr ((wr.alloc (.cells #[.int .u32 (n : Int)] 32)).alloc (.cells #[] 32)).drew) := hide (belows' (below_alloc wr _) (below_alloc _ _)).drew
          have HOE3 : Hid (((wr.alloc (.cells #[.int .u32 (n : Int)] 32)).alloc (.cells #[] 32)).drew.ownsRow wr.heap.size 32 1 (.slice (some ⟨wr.heap.size + 1, 0, none⟩) 0 0) 0 []) := hide (own_emptyP (by have h := Blk.new (wr.alloc (.cells #[.int .u32 (n : Int)] 32)) 32 #[]; rwa [show (wr.alloc (.cells #[.int .u32 (n : Int)] 32)).heap.size = wr.heap.size + 1 by simp] at h) (by omega))
          have HN3 : Hid (((wr.alloc (.cells #[.int .u32 (n : Int)] 32)).alloc (.cells #[] 32)).drew.heap[wr.heap.size]? = some (.cells #[.int .u32 (n : Int)] 32 (0, 0))) := hide ((Blk.new wr 32 #[.int .u32 (n : Int)]).below (below_alloc _ _).drew)
          go_region_law (first
            | (refine step_append_ownP rfl (.tmp 33) (.tmp 36) 23 rfl wr.heap.size 32 i0 (.int .u32 0) 1 4 Try.underlying23 hi hz0 hz1 hz2 rfl (by decide) (.slice (some ⟨wr.heap.size, 0, none⟩) 0 0) 0 [] (by simp [Act.eval]) (unhide HOE2) ⟨b, off, none⟩ T cap (flatG cells32 ((l.drop 0).take T)) (by simp [Act.eval]) hp1 (cells_part (unhide HR) (unhide HB02) 0 T) (one_cells _) (by unfold maxLen; omega) (by omega) (by simp; omega) ?_
               intro v1 w1 hown1 hgrow1
               have hB1 : Below wr.heap.size wr w1 := below_own (unhide HB02) (unhide HOE2) hgrow1 (by simp; omega)
               have hN1 : w1.cell? ⟨wr.heap.size + 1, 0, none⟩ = some (.int .u32 (n : Int)) := (Lib.cell_of_heap ((hgrow1.block (wr.heap.size + 1) (by simp) (by simp [Value.ownBlock])).trans (unhide HN2)) 0).trans rfl)
            | (refine step_append_ownP rfl (.tmp 33) (.tmp 36) 23 rfl wr.heap.size 32 i0 (.int .u32 0) 1 4 Try.underlying23 hi hz0 hz1 hz2 rfl (by decide) (.slice (some ⟨wr.heap.size + 1, 0, none⟩) 0 0) 0 [] (by simp [Act.eval]) (unhide HOE3) ⟨b, off, none⟩ T cap (flatG cells32 ((l.drop 0).take T)) (by simp [Act.eval]) hp1 (cells_part (unhide HR) (unhide HB03) 0 T) (one_cells _) (by unfold maxLen; omega) (by omega) (by simp; omega) ?_
               intro v1 w1 hown1 hgrow1
               have hB1 : Below wr.heap.size wr w1 := below_own (unhide HB03) (unhide HOE3) hgrow1 (by simp; omega)
               have hN1 : w1.cell? ⟨wr.heap.size, 0, none⟩ = some (.int .u32 (n : Int)) := (Lib.cell_of_heap ((hgrow1.block wr.heap.size (by simp; omega) (by simp [Value.ownBlock])).trans (unhide HN3)) 0).trans rfl)
            | (refine step_append_ownP rfl (.tmp 37) (.tmp 39) 23 rfl wr.heap.size 32 i0 (.int .u32 0) 1 4 Try.underlying23 hi hz0 hz1 hz2 rfl (by decide) v1 (0 + T) ([] ++ flatG cells32 ((l.drop 0).take T)) (by simp [Act.eval]) hown1 ⟨wr.heap.size + 1, 0, none⟩ 1 1 [.int .u32 (n : Int)] (by simp [Act.eval]) rfl (one_at hN1) (by intro u hu; simp at hu; subst hu; rfl) (by unfold maxLen; omega) (by omega) hB1.size ?_
               intro v2 w2 hown2 hgrow2
               have hB2 : Below wr.heap.size wr w2 := below_own hB1 hown1 hgrow2 hB1.size)
            | (refine step_append_ownP rfl (.tmp 37) (.tmp 39) 23 rfl wr.heap.size 32 i0 (.int .u32 0) 1 4 Try.underlying23 hi hz0 hz1 hz2 rfl (by decide) v1 (0 + T) ([] ++ flatG cells32 ((l.drop 0).take T)) (by simp [Act.eval]) hown1 ⟨wr.heap.size, 0, none⟩ 1 1 [.int .u32 (n : Int)] (by simp [Act.eval]) rfl (one_at hN1) (by intro u hu; simp at hu; subst hu; rfl) (by unfold maxLen; omega) (by omega) hB1.size ?_
               intro v2 w2 hown2 hgrow2
               have hB2 : Below wr.heap.size wr w2 := below_own hB1 hown1 hgrow2 hB1.size)
            | (refine step_append_ownP rfl (.tmp 33) (.tmp 36) 23 rfl wr.heap.size 32 i0 (.int .u32 0) 1 4 Try.underlying23 hi hz0 hz1 hz2 rfl (by decide) (.slice (some ⟨wr.heap.size, 0, none⟩) 0 0) 0 [] (by simp [Act.eval]) (unhide HOE) ⟨b, off, none⟩ T cap (flatG cells32 ((l.drop 0).take T)) (by simp [Act.eval]) hp1 (cells_part (unhide HR) (unhide HB0) 0 T) (one_cells _) (by unfold maxLen; omega) (by omega) (by simp) ?_
               intro v1 w1 hown1 hgrow1
               have hB1 : Below wr.heap.size wr w1 := below_own (unhide HB0) (unhide HOE) hgrow1 (by simp))
            | (refine step_append_ownP rfl (.tmp 37) (.tmp 39) 23 rfl wr.heap.size 32 i0 (.int .u32 0) 1 4 Try.underlying23 hi hz0 hz1 hz2 rfl (by decide) v1 (0 + T) ([] ++ flatG cells32 ((l.drop 0).take T)) (by simp [Act.eval]) (own_below hown1 (below_alloc w1 (.cells #[.int .u32 (n : Int)] 32))) ⟨w1.heap.size, 0, none⟩ 1 1 [.int .u32 (n : Int)] (by simp [Act.eval]) rfl (fun j u hj => new_cells w1 32 #[.int .u32 (n : Int)] _ rfl j u hj) (by intro u hu; simp at hu; subst hu; rfl) (by unfold maxLen; omega) (by omega) (by have := hB1.size; simp; omega) ?_
               intro v2 w2 hown2 hgrow2
               have hB2 : Below wr.heap.size wr w2 := below_own (hB1.alloc hB1.size (.cells #[.int .u32 (n : Int)] 32)) (own_below hown1 (below_alloc w1 (.cells #[.int .u32 (n : Int)] 32))) hgrow2 (by have := hB1.size; simp; omega))
            | (refine step_append_ownP rfl (.tmp 40) (.tmp 43) 23 rfl wr.heap.size 32 i0 (.int .u32 0) 1 4 Try.underlying23 hi hz0 hz1 hz2 rfl (by decide) v2 (0 + T + 1) ([] ++ flatG cells32 ((l.drop 0).take T) ++ [.int .u32 (n : Int)]) (by simp [Act.eval]) hown2 ⟨b, off + T, none⟩ 0 (cap - T) [] (by simp [Act.eval]) rfl (fun j u hj => by simp at hj) (fun u hu => by simp at hu) (by unfold maxLen; omega) (by omega) hB2.size ?_
               intro v3 w3 hown3 hgrow3
               have hB3 : Below wr.heap.size wr w3 := below_own hB2 hown2 hgrow3 hB2.size))
          all_goals
            rw [(unhide HFL).1, (unhide HFL).2] at hown3
            have HRW := hide (row32_of hown3 (by rw [← (unhide HFL).2]; omega) (unhide HFX))
            have HNW := hide (own_neat hown3)
            have HBW := hide hB3
            clear hown1 hown2 hown3 hgrow1 hgrow2 hgrow3 hB1 hB2 hB3 HOE HOE2 HOE3 HB0 HB02 HB03 HN2 HN3 hp1
            (try go_simp)
            (try go_wp2)
            go_ret
            exact ⟨_, rfl, unhide HRW, unhide HNW, unhide HBW⟩
      · have hT1 : T = 0 := by omega
        have hl0 : l = [] := List.eq_nil_of_length_eq_zero (by have := unhide HTL; omega)
        subst hT1 hl0
        clear hT0 hlt1
        cases a with
        | none =>
          obtain ⟨_, hcap0⟩ := (unhide HN).1 _ _ rfl
          subst hcap0
          go_wp2
          have HFL : Hid ([] ++ [.int .u32 (n : Int)] ++ [] = flatG cells32 (putO [] n) ∧ 0 + 1 + 0 = (putO [] n).length) := hide ⟨rfl, rfl⟩
          have HFX : Hid (∀ z ∈ putO [] n, z ≤ 4294967295) := hide (fun z hz => by
            have : z = n := by simpa [putO] using hz
            omega)
          have hB0 : Below wr.heap.size wr (wr.alloc (.cells #[] 32)).drew := (below_alloc wr _).drew
          have hOE : (wr.alloc (.cells #[] 32)).drew.ownsRow wr.heap.size 32 1 (.slice (some ⟨wr.heap.size, 0, none⟩) 0 0) 0 [] := own_emptyP (Blk.new wr 32 #[]) (Nat.le_refl _)
          have HB0 := hide hB0
          have HOE := hide hOE
          clear hB0 hOE
          have HB02 : Hid (Below wr.heap.size wr ((wr.alloc (.cells #[] 32)).alloc (.cells #[.int .u32 (n : Int)] 32)).drew) := hide (belows' (below_alloc wr _) (below_alloc _ _)).drew
          have HOE2 : Hid (((wr.alloc (.cells #[] 32)).alloc (.cells #[.int .u32 (n : Int)] 32)).drew.ownsRow wr.heap.size 32 1 (.slice (some ⟨wr.heap.size, 0, none⟩) 0 0) 0 []) := hide (own_emptyP ((Blk.new wr 32 #[]).below (below_alloc _ _).drew) (Nat.le_refl _))
          have HN2 : Hid (((wr.alloc (.cells #[] 32)).alloc (.cells #[.int .u32 (n : Int)] 32)).drew.heap[wr.heap.size + 1]? = some (.cells #[.int .u32 (n : Int)] 32 (0, 0))) := hide (by have h := Blk.new (wr.alloc (.cells #[] 32)) 32 #[.int .u32 (n : Int)]; rwa [show (wr.alloc (.cells #[] 32)).heap.size = wr.heap.size + 1 by simp] at h)
          have HB03 : Hid (Below wr.heap.size wr ((wr.alloc (.cells #[.int .u32 (n : Int)] 32)).alloc (.cells #[] 32)).drew) := hide (belows' (below_alloc wr _) (below_alloc _ _)).drew
          have HOE3 : Hid (((wr.alloc (.cells #[.int .u32 (n : Int)] 32)).alloc (.cells #[] 32)).drew.ownsRow wr.heap.size 32 1 (.slice (some ⟨wr.heap.size + 1, 0, none⟩) 0 0) 0 []) := hide (own_emptyP (by have h := Blk.new (wr.alloc (.cells #[.int .u32 (n : Int)] 32)) 32 #[]; rwa [show (wr.alloc (.cells #[.int .u32 (n : Int)] 32)).heap.size = wr.heap.size + 1 by simp] at h) (by omega))
          have HN3 : Hid (((wr.alloc (.cells #[.int .u32 (n : Int)] 32)).alloc (.cells #[] 32)).drew.heap[wr.heap.size]? = some (.cells #[.int .u32 (n : Int)] 32 (0, 0))) := hide ((Blk.new wr 32 #[.int .u32 (n : Int)]).below (below_alloc _ _).drew)
          go_region_law (first
            | (refine step_append_ownP rfl (.tmp 37) (.tmp 39) 23 rfl wr.heap.size 32 i0 (.int .u32 0) 1 4 Try.underlying23 hi hz0 hz1 hz2 rfl (by decide) (.slice (some ⟨wr.heap.size, 0, none⟩) 0 0) 0 [] (by simp [Act.eval]) (unhide HOE2) ⟨wr.heap.size + 1, 0, none⟩ 1 1 [.int .u32 (n : Int)] (by simp [Act.eval]) rfl (one_at ((Lib.cell_of_heap (unhide HN2) 0).trans rfl)) (by intro u hu; simp at hu; subst hu; rfl) (by unfold maxLen; omega) (by omega) (by simp; omega) ?_
               intro v2 w2 hown2 hgrow2
               have hB2 : Below wr.heap.size wr w2 := below_own (unhide HB02) (unhide HOE2) hgrow2 (by simp; omega))
            | (refine step_append_ownP rfl (.tmp 37) (.tmp 39) 23 rfl wr.heap.size 32 i0 (.int .u32 0) 1 4 Try.underlying23 hi hz0 hz1 hz2 rfl (by decide) (.slice (some ⟨wr.heap.size + 1, 0, none⟩) 0 0) 0 [] (by simp [Act.eval]) (unhide HOE3) ⟨wr.heap.size, 0, none⟩ 1 1 [.int .u32 (n : Int)] (by simp [Act.eval]) rfl (one_at ((Lib.cell_of_heap (unhide HN3) 0).trans rfl)) (by intro u hu; simp at hu; subst hu; rfl) (by unfold maxLen; omega) (by omega) (by simp; omega) ?_
               intro v2 w2 hown2 hgrow2
               have hB2 : Below wr.heap.size wr w2 := below_own (unhide HB03) (unhide HOE3) hgrow2 (by simp; omega))
            | (refine step_append_noneP rfl (.tmp 40) (.tmp 43) 23 rfl wr.heap.size 32 i0 1 Try.underlying23 hi v2 (0 + 1) ([] ++ [.int .u32 (n : Int)]) (by simp [Act.eval]) hown2 (by simp [Act.eval]) ?_))
          all_goals
            have hown3 := hown2
            have hB3 := hB2
            rw [show ([] ++ [Value.int .u32 (n : Int)]) = ([] ++ [Value.int .u32 (n : Int)] ++ []) from rfl, (unhide HFL).1, show 0 + 1 = (putO [] n).length from (unhide HFL).2] at hown3
            have HRW := hide (row32_of hown3 (by rw [← (unhide HFL).2]; omega) (unhide HFX))
            have HNW := hide (own_neat hown3)
            have HBW := hide hB3
            clear hown2 hown3 hB2 hB3 HOE HOE2 HOE3 HB0 HB02 HB03 HN2 HN3
            (try go_simp)
            (try go_wp2)
            go_ret
            exact ⟨_, rfl, unhide HRW, unhide HNW, unhide HBW⟩
        | some ad =>
          go_wp2
          have HFL : Hid ([] ++ [.int .u32 (n : Int)] ++ [] = flatG cells32 (putO [] n) ∧ 0 + 1 + 0 = (putO [] n).length) := hide ⟨rfl, rfl⟩
          have HFX : Hid (∀ z ∈ putO [] n, z ≤ 4294967295) := hide (fun z hz => by
            have : z = n := by simpa [putO] using hz
            omega)
          have hB0 : Below wr.heap.size wr (wr.alloc (.cells #[] 32)).drew := (below_alloc wr _).drew
          have hOE : (wr.alloc (.cells #[] 32)).drew.ownsRow wr.heap.size 32 1 (.slice (some ⟨wr.heap.size, 0, none⟩) 0 0) 0 [] := own_emptyP (Blk.new wr 32 #[]) (Nat.le_refl _)
          have HB0 := hide hB0
          have HOE := hide hOE
          clear hB0 hOE
          have HB02 : Hid (Below wr.heap.size wr ((wr.alloc (.cells #[] 32)).alloc (.cells #[.int .u32 (n : Int)] 32)).drew) := hide (belows' (below_alloc wr _) (below_alloc _ _)).drew
          have HOE2 : Hid (((wr.alloc (.cells #[] 32)).alloc (.cells #[.int .u32 (n : Int)] 32)).drew.ownsRow wr.heap.size 32 1 (.slice (some ⟨wr.heap.size, 0, none⟩) 0 0) 0 []) := hide (own_emptyP ((Blk.new wr 32 #[]).below (below_alloc _ _).drew) (Nat.le_refl _))
          have HN2 : Hid (((wr.alloc (.cells #[] 32)).alloc (.cells #[.int .u32 (n : Int)] 32)).drew.heap[wr.heap.size + 1]? = some (.cells #[.int .u32 (n : Int)] 32 (0, 0))) := hide (by have h := Blk.new (wr.alloc (.cells #[] 32)) 32 #[.int .u32 (n : Int)]; rwa [show (wr.alloc (.cells #[] 32)).heap.size = wr.heap.size + 1 by simp] at h)
          have HB03 : Hid (Below wr.heap.size wr ((wr.alloc (.cells #[.int .u32 (n : Int)] 32)).alloc (.cells #[] 32)).drew) := hide (belows' (below_alloc wr _) (below_alloc _ _)).drew
          have HOE3 : Hid (((wr.alloc (.cells #[.int .u32 (n : Int)] 32)).alloc (.cells #[] 32)).drew.ownsRow wr.heap.size 32 1 (.slice (some ⟨wr.heap.size + 1, 0, none⟩) 0 0) 0 []) := hide (own_emptyP (by have h := Blk.new (wr.alloc (.cells #[.int .u32 (n : Int)] 32)) 32 #[]; rwa [show (wr.alloc (.cells #[.int .u32 (n : Int)] 32)).heap.size = wr.heap.size + 1 by simp] at h) (by omega))
          have HN3 : Hid (((wr.alloc (.cells #[.int .u32 (n : Int)] 32)).alloc (.cells #[] 32)).drew.heap[wr.heap.size]? = some (.cells #[.int .u32 (n : Int)] 32 (0, 0))) := hide ((Blk.new wr 32 #[.int .u32 (n : Int)]).below (below_alloc _ _).drew)
          go_region_law (first
            | (refine step_append_ownP rfl (.tmp 37) (.tmp 39) 23 rfl wr.heap.size 32 i0 (.int .u32 0) 1 4 Try.underlying23 hi hz0 hz1 hz2 rfl (by decide) (.slice (some ⟨wr.heap.size, 0, none⟩) 0 0) 0 [] (by simp [Act.eval]) (unhide HOE2) ⟨wr.heap.size + 1, 0, none⟩ 1 1 [.int .u32 (n : Int)] (by simp [Act.eval]) rfl (one_at ((Lib.cell_of_heap (unhide HN2) 0).trans rfl)) (by intro u hu; simp at hu; subst hu; rfl) (by unfold maxLen; omega) (by omega) (by simp; omega) ?_
               intro v2 w2 hown2 hgrow2
               have hB2 : Below wr.heap.size wr w2 := below_own (unhide HB02) (unhide HOE2) hgrow2 (by simp; omega))
            | (refine step_append_ownP rfl (.tmp 37) (.tmp 39) 23 rfl wr.heap.size 32 i0 (.int .u32 0) 1 4 Try.underlying23 hi hz0 hz1 hz2 rfl (by decide) (.slice (some ⟨wr.heap.size + 1, 0, none⟩) 0 0) 0 [] (by simp [Act.eval]) (unhide HOE3) ⟨wr.heap.size, 0, none⟩ 1 1 [.int .u32 (n : Int)] (by simp [Act.eval]) rfl (one_at ((Lib.cell_of_heap (unhide HN3) 0).trans rfl)) (by intro u hu; simp at hu; subst hu; rfl) (by unfold maxLen; omega) (by omega) (by simp; omega) ?_
               intro v2 w2 hown2 hgrow2
               have hB2 : Below wr.heap.size wr w2 := below_own (unhide HB03) (unhide HOE3) hgrow2 (by simp; omega))
            | (refine step_append_ownP rfl (.tmp 40) (.tmp 43) 23 rfl wr.heap.size 32 i0 (.int .u32 0) 1 4 Try.underlying23 hi hz0 hz1 hz2 rfl (by decide) v2 (0 + 1) ([] ++ [.int .u32 (n : Int)]) (by simp [Act.eval]) hown2 ad 0 cap [] (by simp [Act.eval]) rfl (fun j u hj => by simp at hj) (fun u hu => by simp at hu) (by unfold maxLen; omega) (by omega) hB2.size ?_
               intro v3 w3 hown3 hgrow3
               have hB3 : Below wr.heap.size wr w3 := below_own hB2 hown2 hgrow3 hB2.size))
          all_goals
            rw [(unhide HFL).1, (unhide HFL).2] at hown3
            have HRW := hide (row32_of hown3 (by rw [← (unhide HFL).2]; omega) (unhide HFX))
            have HNW := hide (own_neat hown3)
            have HBW := hide hB3
            clear hown2 hown3 hB2 hB3 HOE HOE2 HOE3 HB0 HB02 HB03 HN2 HN3
            (try go_simp)
            (try go_wp2)
            go_ret
            exact ⟨_, rfl, unhide HRW, unhide HNW, unhide HBW⟩
end Go.Proofs.Ytghgpgeopdhcnaa
