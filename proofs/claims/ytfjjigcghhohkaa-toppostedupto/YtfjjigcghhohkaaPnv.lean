/-
  What is packed is read as it was, and what is read is packed so: plain mathematics.
-/
import Derived.Test.YtfjjigcghhohkaaPns
import Derived.Test.YtfjjigcghhohkaaPno
set_option linter.unusedVariables false
namespace Go.Proofs.Ytfjjigcghhohkaa
open Go.Proofs.Num Go.Proofs.Dct Go.Proofs.Pna

/-- The bytes of numbers that rise from a on. -/
def gapsR : Nat → List Nat → List UInt8
  | _, [] => []
  | a, x :: r => putL (x - a) ++ gapsR (x + 1) r
theorem gapsN_cons (x y : Nat) (r : List Nat) : ∀ k, gapsN (x :: y :: r) (k + 1) = putL (y - x - 1) ++ gapsN (y :: r) k
  | 0 => by simp [gapsN, List.range_succ]
  | k + 1 => by
    rw [gapsN_succ, gapsN_cons x y r k, gapsN_succ, List.append_assoc]
    rfl
theorem gapsN_R : ∀ (r : List Nat) (x : Nat), gapsN (x :: r) r.length = gapsR (x + 1) r
  | [], x => rfl
  | y :: r, x => by
    rw [List.length_cons, gapsN_cons, gapsN_R r y]
    show _ = putL (y - (x + 1)) ++ _
    rw [Nat.sub_sub]
theorem blockL_cons (a x : Nat) (r : List Nat) : blockL a (x :: r) = putL (x - a) ++ (putL (r.length + 1) ++ (putL (gapsR (x + 1) r).length ++ gapsR (x + 1) r)) := by
  unfold blockL
  rw [List.length_cons, Nat.add_sub_cancel, gapsN_R]
  rfl

/-- The numbers' pieces of 32, from a on. -/
def packR : Nat → Nat → List Nat → List UInt8
  | 0, _, _ => []
  | n + 1, a, l => blockL (a - 1) (l.take 32) ++ packR n ((l.take 32).getD ((l.take 32).length - 1) 0 + 1) (l.drop 32)
def leastN (l : List Nat) : Nat → Nat
  | 0 => 0
  | k + 1 => (packN l (k + 1)).2 + 1
theorem leastN_pred (l : List Nat) (k : Nat) : leastN l k - 1 = (packN l k).2 := by cases k <;> rfl
theorem packN_R (l : List Nat) : ∀ n k, (packN l (k + n)).1 = (packN l k).1 ++ packR n (leastN l k) (l.drop (32 * k))
  | 0, k => by simp [packR]
  | n + 1, k => by
    have h := packN_R l n (k + 1)
    rw [show k + (n + 1) = k + 1 + n by omega, h]
    show ((packN l k).1 ++ blockL (packN l k).2 (chunkL l k)) ++ _ = _
    rw [packR, leastN_pred, List.append_assoc, List.drop_drop]
    rfl
theorem packL_R (l : List Nat) : packL l = putL l.length ++ packR ((l.length + 31) / 32) 0 l := by
  have := packN_R l ((l.length + 31) / 32) 0
  rw [Nat.zero_add] at this
  unfold packL
  rw [this]
  simp [packN, leastN]

/-- What is read of a number that stands there. -/
theorem numS_put {T : List UInt8} {pos a n : Nat} {d : List UInt8} (hn : n < 18446744073709551616) (h : T.drop pos = putL n ++ d) : numS T ⟨pos, a, 0⟩ = (n, ⟨pos + (putL n).length, a, 0⟩) := by
  unfold numS
  simp only [if_pos]
  rw [h, scanL_put n d hn]
  simp
theorem drop_len {T x d : List UInt8} {pos : Nat} (h : T.drop pos = x ++ d) : T.drop (pos + x.length) = d := by
  rw [← List.drop_drop, h, List.drop_left]
theorem restF_put (T : List UInt8) : ∀ (r : List Nat) (pos a b : Nat) (d : List UInt8), Up a r b → b ≤ 4294967296 → T.drop pos = gapsR a r ++ d → restF T r.length ⟨pos, a, 0⟩ = (r, ⟨pos + (gapsR a r).length, b, 0⟩)
  | [], pos, a, b, d, hu, hb, h => by cases hu; rfl
  | x :: r, pos, a, b, d, hu, hb, h => by
    have hle := hu.2.le
    have hax := hu.1
    have hn : numS T ⟨pos, a, 0⟩ = (x - a, ⟨pos + (putL (x - a)).length, a, 0⟩) := numS_put (by omega) (by rw [h, gapsR, List.append_assoc])
    have ho : oneS T ⟨pos, a, 0⟩ = (x, ⟨pos + (putL (x - a)).length, x + 1, 0⟩) := by
      unfold oneS
      rw [hn]
      unfold takeS
      simp only
      rw [if_neg (by omega)]
      simp only [Prod.mk.injEq, RS.mk.injEq, true_and, and_true]
      omega
    have ih := restF_put T r (pos + (putL (x - a)).length) (x + 1) b d hu.2 hb (drop_len (by rw [h, gapsR, List.append_assoc]))
    rw [List.length_cons, restF, ho, ih]
    simp only [gapsR, List.length_append, Nat.add_assoc]
theorem restF_take (T : List UInt8) (r : List Nat) (a b : Nat) (hu : Up a r b) (hb : b ≤ 4294967296) : restF (gapsR a r) r.length ⟨0, a, 0⟩ = (r, ⟨(gapsR a r).length, b, 0⟩) := by
  have := restF_put (gapsR a r) r 0 a b [] hu hb (by simp)
  simpa using this
theorem restS_put {T : List UInt8} {r : List Nat} {pos a b : Nat} {d : List UInt8} (hu : Up a r b) (hb : b ≤ 4294967296) (hl : (gapsR a r).length < 18446744073709551616) (h : T.drop pos = putL (gapsR a r).length ++ (gapsR a r ++ d)) :
    restS T ⟨pos, a, 0⟩ r.length = (r, ⟨pos + (putL (gapsR a r).length).length + (gapsR a r).length, b, 0⟩) := by
  have hn := numS_put (a := a) hl h
  have hd := drop_len h
  unfold restS
  rw [hn]
  simp only
  have hin : innerT T ⟨pos + (putL (gapsR a r).length).length, a, 0⟩ (gapsR a r).length = gapsR a r := by
    unfold innerT
    simp only
    rw [hd, if_pos (by simp), List.take_left]
  rw [hin, restF_take T r a b hu hb]
  simp [endS, failS]
theorem gapsR_len : ∀ (r : List Nat) (a b : Nat), Up a r b → b ≤ 4294967296 → (gapsR a r).length ≤ 10 * r.length
  | [], a, b, _, _ => by simp [gapsR]
  | x :: r, a, b, h, hb => by
    have hle := h.2.le
    have ih := gapsR_len r (x + 1) b h.2 hb
    have := putL_len10 (n := x - a) (by omega)
    simp only [gapsR, List.length_append, List.length_cons]
    omega
theorem blockS_put {T : List UInt8} {r : List Nat} {x pos a b : Nat} {d : List UInt8} (hu : Up a (x :: r) b) (hb : b ≤ 4294967296) (hr : r.length ≤ 65536) (h : T.drop pos = blockL (a - 1) (x :: r) ++ d) :
    blockS T ⟨pos, a, 0⟩ (r.length + 1) = (x :: r, ⟨pos + (blockL (a - 1) (x :: r)).length, b, 0⟩) := by
  have hle := hu.2.le
  have hax := hu.1
  rw [blockL_cons] at h ⊢
  simp only [List.append_assoc] at h
  have hg := gapsR_len r (x + 1) b hu.2 hb
  have hf : firstS T ⟨pos, a, 0⟩ = (x, ⟨pos + (putL (x - (a - 1))).length, x + 1, 0⟩) := by
    unfold firstS
    rw [numS_put (a := a) (n := x - (a - 1)) (by omega) h]
    simp only
    split
    · rename_i h0
      subst h0
      unfold takeS
      simp only
      rw [if_neg (by omega)]
      simp
    · rename_i h0
      rw [if_neg (by omega)]
      unfold takeS
      simp only
      rw [if_neg (by omega)]
      simp only [Prod.mk.injEq, RS.mk.injEq, true_and, and_true]
      omega
  have h1 := drop_len h
  have hm : midS T ⟨pos + (putL (x - (a - 1))).length, x + 1, 0⟩ (r.length + 1) = ⟨pos + (putL (x - (a - 1))).length + (putL (r.length + 1)).length, x + 1, 0⟩ := by
    unfold midS
    rw [numS_put (a := x + 1) (n := r.length + 1) (by omega) h1]
    simp
  have h2 := drop_len h1
  unfold blockS
  rw [hf]
  simp only
  rw [hm, Nat.add_sub_cancel, restS_put hu.2 hb (by omega) h2]
  simp only [List.length_append, Nat.add_assoc]
theorem up_last : ∀ {l : List Nat} {a b : Nat}, Up a l b → l ≠ [] → b = l.getD (l.length - 1) 0 + 1
  | [], _, _, _, h => absurd rfl h
  | [x], a, b, h, _ => h.2
  | x :: y :: r, a, b, h, _ => by
    have := up_last (l := y :: r) h.2 (by simp)
    rw [this]
    simp
theorem blocksF_put (T : List UInt8) (d : List UInt8) : ∀ (n f : Nat) (l : List Nat) (pos a b : Nat), n = (l.length + 31) / 32 → l.length < f → l.length ≤ 65536 → Up a l b → b ≤ 4294967296 → T.drop pos = packR n a l ++ d →
    ∃ bs, blocksF T f l.length ⟨pos, a, 0⟩ = (bs, ⟨pos + (packR n a l).length, b, 0⟩) ∧ flatB bs = l
  | n, 0, l, pos, a, b, hn, hf, _, _, _, _ => absurd hf (by omega)
  | 0, f + 1, l, pos, a, b, hn, hf, _, hu, _, _ => by
    have hl : l = [] := List.length_eq_zero_iff.1 (by omega)
    subst hl
    cases hu
    exact ⟨[], by simp [blocksF, packR], rfl⟩
  | n + 1, f + 1, l, pos, a, b, hn, hf, hlm, hu, hb, h => by
    have hl0 : l.length ≠ 0 := by omega
    have htd := List.take_append_drop 32 l
    rw [← htd] at hu
    obtain ⟨c, hu1, hu2⟩ := hu.split
    have hc := hu2.le
    have hne : l.take 32 ≠ [] := by
      intro h0
      have := congrArg List.length h0
      rw [List.length_take, List.length_nil] at this
      omega
    have hlast := up_last hu1 hne
    have hlt : (l.take 32).length = min l.length 32 := by rw [List.length_take, Nat.min_comm]
    rw [packR, List.append_assoc] at h
    have hd := drop_len h
    rw [← hlast] at hd
    obtain ⟨bs, hbs, hfl⟩ := blocksF_put T d n f (l.drop 32) (pos + (blockL (a - 1) (l.take 32)).length) c b (by rw [List.length_drop]; omega) (by rw [List.length_drop]; omega) (by rw [List.length_drop]; omega) hu2 hb hd
    have hbl : blockS T ⟨pos, a, 0⟩ (min l.length 32) = (l.take 32, ⟨pos + (blockL (a - 1) (l.take 32)).length, c, 0⟩) := by
      rw [← hlt]
      have hq : (l.take 32).length ≤ 65536 := by omega
      clear hlt hlast hd hbs
      revert h hu1 hq
      generalize l.take 32 = q at hne
      intro h hu1 hq
      cases q with
      | nil => exact absurd rfl hne
      | cons x r =>
        rw [List.length_cons]
        exact blockS_put hu1 (by omega) (by rw [List.length_cons] at hq; omega) h
    refine ⟨(pos, l.take 32) :: bs, ?_, by rw [flatB_cons, hfl]; exact htd⟩
    rw [blocksF, if_neg hl0, hbl]
    simp only [ne_eq, not_true_eq_false, if_false]
    rw [show l.length - min l.length 32 = (l.drop 32).length by rw [List.length_drop]; omega, hbs, packR, ← hlast]
    simp [Nat.add_assoc]
/-- What is packed is read, whatever is behind it. -/
theorem readS_pack {l : List Nat} {d : List UInt8} (hr : l.Pairwise (· < ·)) (hf : ∀ x ∈ l, x ≤ 4294967295) (hl : l.length ≤ 65536) : flatB (readS (packL l ++ d)).1 = l ∧ (readS (packL l ++ d)).2.er = 0 ∧ (readS (packL l ++ d)).2.pos = (packL l).length := by
  obtain ⟨b, hu, hb⟩ : ∃ b, Up 0 l b ∧ b ≤ 4294967296 := by
    have key : ∀ (l : List Nat) (a : Nat), l.Pairwise (· < ·) → (∀ x ∈ l, a ≤ x) → (∀ x ∈ l, x ≤ 4294967295) → a ≤ 4294967296 → ∃ b, Up a l b ∧ b ≤ 4294967296 := by
      intro l
      induction l with
      | nil => intro a _ _ _ ha; exact ⟨a, rfl, ha⟩
      | cons x r ih =>
        intro a h1 h2 h3 _
        obtain ⟨h4, h5⟩ := List.pairwise_cons.1 h1
        obtain ⟨b, h6, h7⟩ := ih (x + 1) h5 (fun y hy => h4 y hy) (fun y hy => h3 y (List.mem_cons_of_mem _ hy)) (by have := h3 x List.mem_cons_self; omega)
        exact ⟨b, ⟨h2 x List.mem_cons_self, h6⟩, h7⟩
    exact key l 0 hr (fun _ _ => Nat.zero_le _) hf (by omega)
  have hT : packL l ++ d = putL l.length ++ (packR ((l.length + 31) / 32) 0 l ++ d) := by rw [packL_R, List.append_assoc]
  have hn : numS (packL l ++ d) ⟨0, 0, 0⟩ = (l.length, ⟨0 + (putL l.length).length, 0, 0⟩) := numS_put (by omega) (by rw [List.drop_zero, hT])
  have hc : countS (packL l ++ d) ⟨0, 0, 0⟩ = (l.length, ⟨(putL l.length).length, 0, 0⟩) := by
    unfold countS
    rw [hn]
    simp only
    rw [if_neg (by omega), Nat.zero_add]
  obtain ⟨bs, h1, h2⟩ := blocksF_put (packL l ++ d) d _ (l.length + 1) l (putL l.length).length 0 b rfl (by omega) hl hu hb (by rw [hT, List.drop_left])
  unfold readS
  rw [hc]
  simp only
  rw [h1]
  refine ⟨h2, rfl, ?_⟩
  rw [packL_R, List.length_append]

/-- The way back: what was read is packed so. -/
theorem numS_back {T : List UInt8} {r : RS} (h : (numS T r).2.er = 0) : r.er = 0 ∧ T.drop r.pos = putL (numS T r).1 ++ T.drop (numS T r).2.pos ∧ (numS T r).2.least = r.least ∧ r.pos < (numS T r).2.pos := by
  have h0 := numS_ok h
  refine ⟨h0, ?_, numS_least T r, ?_⟩
  all_goals
    unfold numS at h ⊢
    rw [if_pos h0] at h ⊢
    split at h
    · rename_i hs
      rw [if_pos hs]
      obtain ⟨h1, h2, _, _⟩ := scanL_ok (s := T.drop r.pos) (m := (scanL (T.drop r.pos)).1) (k := (scanL (T.drop r.pos)).2.1) (by rw [← hs])
      simp only
      first
        | (rw [List.drop_drop] at h1; exact h1)
        | (have := putL_pos (scanL (T.drop r.pos)).1; omega)
    · rename_i hs
      exact absurd h hs
theorem restF_back (T : List UInt8) : ∀ (k : Nat) (r : RS), (restF T k r).2.er = 0 → T.drop r.pos = gapsR r.least (restF T k r).1 ++ T.drop (restF T k r).2.pos ∧ (restF T k r).2.pos = r.pos + (gapsR r.least (restF T k r).1).length
  | 0, r, h => ⟨by simp [restF, gapsR], by simp [restF, gapsR]⟩
  | k + 1, r, h => by
    obtain ⟨h1, _⟩ := restF_up T k (oneS T r).2 h
    obtain ⟨ih1, ih2⟩ := restF_back T k (oneS T r).2 h
    obtain ⟨h3, h4, h5, h6⟩ := takeS_ok h1
    obtain ⟨h7, h8, h9, _⟩ := numS_back h3
    have hp : (oneS T r).2.pos = (numS T r).2.pos := takeS_pos _ _
    have hl : (oneS T r).2.least = (oneS T r).1 + 1 := h5
    have hx : (numS T r).1 = (oneS T r).1 - r.least := by
      have : (oneS T r).1 = (numS T r).2.least + (numS T r).1 := h6
      rw [h9] at this
      omega
    have hpp : (numS T r).2.pos = r.pos + (putL (numS T r).1).length := by
      unfold numS at h3 ⊢
      rw [if_pos h7] at h3 ⊢
      split at h3
      · rename_i hs
        rw [if_pos hs]
        obtain ⟨_, h2, _, _⟩ := scanL_ok (s := T.drop r.pos) (m := (scanL (T.drop r.pos)).1) (k := (scanL (T.drop r.pos)).2.1) (by rw [← hs])
        simp only
        omega
      · rename_i hs
        exact absurd h3 hs
    rw [hp, hl] at ih1 ih2
    have e1 : (restF T (k + 1) r).1 = (oneS T r).1 :: (restF T k (oneS T r).2).1 := rfl
    have e2 : (restF T (k + 1) r).2 = (restF T k (oneS T r).2).2 := rfl
    rw [e1, e2, gapsR, ← hx]
    refine ⟨by rw [h8, ih1, List.append_assoc], ?_⟩
    rw [ih2, hpp, List.length_append, Nat.add_assoc]
theorem restS_back {T : List UInt8} {r : RS} {many : Nat} (hi : In T r) (h : (restS T r many).2.er = 0) :
    T.drop r.pos = putL (gapsR r.least (restS T r many).1).length ++ (gapsR r.least (restS T r many).1 ++ T.drop (restS T r many).2.pos) ∧ r.pos < (restS T r many).2.pos := by
  have h1 : (failS (numS T r).2 (endS (decide ((numS T r).1 ≤ (T.drop (numS T r).2.pos).length)) (numS T r).1 (restF (innerT T (numS T r).2 (numS T r).1) many ⟨0, (numS T r).2.least, (numS T r).2.er⟩).2).er).er = 0 := h
  obtain ⟨h2, h3⟩ := failS_ok h1
  obtain ⟨h4, h5⟩ := endS_ok h3
  obtain ⟨h6, h7, h8, h9⟩ := numS_back h2
  obtain ⟨b1, b2⟩ := restF_back _ _ _ h4
  have hin : In (innerT T (numS T r).2 (numS T r).1) (restF (innerT T (numS T r).2 (numS T r).1) many ⟨0, (numS T r).2.least, (numS T r).2.er⟩).2 := In.restF many ⟨Nat.zero_le _, by rw [h8]; exact hi.least⟩
  have e1 : (restS T r many).1 = (restF (innerT T (numS T r).2 (numS T r).1) many ⟨0, (numS T r).2.least, (numS T r).2.er⟩).1 := rfl
  have e2 : (restS T r many).2.pos = (numS T r).2.pos + (restF (innerT T (numS T r).2 (numS T r).1) many ⟨0, (numS T r).2.least, (numS T r).2.er⟩).2.pos := by
    show (numS T r).2.pos + (endS _ _ _).pos = _
    rw [(endS_pos _ _ _).1]
  rw [e1, e2, h5]
  simp only [Nat.zero_add] at b2
  rw [h8] at b1 b2 h5 hin ⊢
  generalize restF (innerT T (numS T r).2 (numS T r).1) many ⟨0, r.least, (numS T r).2.er⟩ = q at *
  have hsz : (gapsR r.least q.1).length = (numS T r).1 := by rw [← b2, h5]
  have hp := hin.pos
  rw [h5] at hp
  have hle : (numS T r).1 ≤ (T.drop (numS T r).2.pos).length := Nat.le_trans hp (innerT_len _ _ _)
  unfold innerT at b1
  rw [if_pos hle, List.drop_zero] at b1
  have hg : gapsR r.least q.1 = (T.drop (numS T r).2.pos).take (numS T r).1 := by
    have := congrArg (List.take (numS T r).1) b1
    rw [List.take_take, Nat.min_self, ← hsz, List.take_left] at this
    rw [hsz] at this
    exact this.symm
  refine ⟨?_, by omega⟩
  rw [h7, hsz, hg, ← List.drop_drop, List.take_append_drop]
theorem blockS_back {T : List UInt8} {r : RS} {many : Nat} (hm : 1 ≤ many) (hi : In T r) (h : (blockS T r many).2.er = 0) : T.drop r.pos = blockL (r.least - 1) (blockS T r many).1 ++ T.drop (blockS T r many).2.pos ∧ r.pos < (blockS T r many).2.pos := by
  obtain ⟨h1, _⟩ := restS_up (T := T) (r := midS T (firstS T r).2 many) (many := many - 1) h
  obtain ⟨h3, h4, h5⟩ := midS_ok h1
  obtain ⟨h6, h7, h8⟩ := firstS_ok h3
  obtain ⟨h9, h10⟩ := restS_back (T := T) (r := midS T (firstS T r).2 many) (many := many - 1) ((hi.first).mid _) h
  have hmid : midS T (firstS T r).2 many = (numS T (firstS T r).2).2 := by unfold midS; rw [if_pos h5]
  have hn2 : (numS T (firstS T r).2).2.er = 0 := by rw [← hmid]; exact h1
  obtain ⟨_, h11, _, h12⟩ := numS_back hn2
  have hf : (numS T r).2.er = 0 ∧ (firstS T r).2.pos = (numS T r).2.pos ∧ (firstS T r).1 - (r.least - 1) = (numS T r).1 := by
    unfold firstS at h3 ⊢
    rw [numS_least] at h3 ⊢
    split at h3
    · rename_i h0
      rw [if_pos h0]
      obtain ⟨a1, a2, a3, a4⟩ := takeS_ok h3
      rw [numS_least] at a4
      exact ⟨a1, takeS_pos _ _, by omega⟩
    · rename_i h0
      rw [if_neg h0]
      obtain ⟨a1, a2, a3, a4⟩ := takeS_ok h3
      have hne : (numS T r).1 ≠ 0 := by
        intro hz
        rw [hz] at h3
        simp only [if_true] at h3
        unfold takeS at h3
        rw [if_pos (by omega)] at h3
        have := (failS_ok h3).2
        omega
      rw [numS_least] at a4
      rw [if_neg hne] at a4 ⊢
      exact ⟨a1, takeS_pos _ _, by omega⟩
  obtain ⟨_, h13, _, h14⟩ := numS_back hf.1
  have e1 : (blockS T r many).1 = (firstS T r).1 :: (restS T (midS T (firstS T r).2 many) (many - 1)).1 := rfl
  have e2 : (blockS T r many).2 = (restS T (midS T (firstS T r).2 many) (many - 1)).2 := rfl
  have hl : (restS T (midS T (firstS T r).2 many) (many - 1)).1.length + 1 = many := by
    show (restF _ (many - 1) _).1.length + 1 = many
    rw [restF_len]
    omega
  rw [h4, h8] at h9
  rw [hf.2.1] at h11 h12
  rw [h5] at h11
  rw [hmid] at h10
  refine ⟨?_, by rw [e2, hmid]; omega⟩
  rw [e1, e2, blockL_cons, hf.2.2, hl, h13, h11, ← hmid, h9]
  simp only [List.append_assoc]
/-- What blocks are read, one behind the other. -/
theorem blocksF_back (T : List UInt8) : ∀ (f left : Nat) (r : RS), left < f → r.er = 0 → In T r → (blocksF T f left r).2.er = 0 →
    T.drop r.pos = packR ((left + 31) / 32) r.least (flatB (blocksF T f left r).1) ++ T.drop (blocksF T f left r).2.pos ∧ (∀ p ∈ (blocksF T f left r).1, r.pos ≤ p.1 ∧ p.1 < (blocksF T f left r).2.pos) ∧ r.pos ≤ (blocksF T f left r).2.pos ∧
      (∀ i (hi : i < (blocksF T f left r).1.length), ((blocksF T f left r).1[i]).2.length = min 32 (left - 32 * i))
  | 0, left, r, h, _, _, _ => absurd h (by omega)
  | f + 1, left, r, h, h0, hi, he => by
    rw [blocksF] at he ⊢
    by_cases hl0 : left = 0
    · rw [if_pos hl0] at he ⊢
      subst hl0
      simp [packR]
    · rw [if_neg hl0] at he ⊢
      simp only at he ⊢
      by_cases hb : (blockS T r (min left 32)).2.er ≠ 0
      · rw [if_pos hb] at he
        exact absurd he hb
      · rw [if_neg hb] at he ⊢
        have hb0 : (blockS T r (min left 32)).2.er = 0 := by simpa using hb
        obtain ⟨hp1, hp2⟩ := blockS_back (by omega) hi hb0
        have hlen := blockS_len' (T := T) (r := r) (many := min left 32) (by omega)
        obtain ⟨_, hu⟩ := blockS_up hb0
        have hlast := up_last hu (by intro hn; rw [hn] at hlen; simp at hlen; omega)
        obtain ⟨ih1, ih2, ih3, ih4⟩ := blocksF_back T f (left - min left 32) (blockS T r (min left 32)).2 (by omega) hb0 (hi.block _) he
        have hall := (blocksF_told T f (left - min left 32) (blockS T r (min left 32)).2 (by omega) (hi.block _)).all he
        simp only at he
        rw [flatB_cons]
        simp only
        generalize (blockS T r (min left 32)) = B at *
        generalize (blocksF T f (left - min left 32) B.2) = R at *
        have htk : (B.1 ++ flatB R.1).take 32 = B.1 ∧ (B.1 ++ flatB R.1).drop 32 = flatB R.1 := by
          by_cases h32 : 32 ≤ left
          · have : B.1.length = 32 := by omega
            rw [← this, List.take_left, List.drop_left]
            exact ⟨rfl, rfl⟩
          · have hn : flatB R.1 = [] := List.length_eq_zero_iff.1 (by omega)
            rw [hn, List.append_nil]
            exact ⟨List.take_of_length_le (by omega), List.drop_of_length_le (by omega)⟩
        refine ⟨?_, ?_, by omega, ?_⟩
        · rw [show (left + 31) / 32 = (left - min left 32 + 31) / 32 + 1 by omega, packR, htk.1, htk.2, ← hlast, hp1, ih1, List.append_assoc]
        · intro p hp
          rcases List.mem_cons.1 hp with rfl | hp
          · simp only; omega
          · have := ih2 p hp; omega
        · intro i hi
          cases i with
          | zero => simp only [List.getElem_cons_zero]; omega
          | succ j =>
            rw [List.getElem_cons_succ, ih4 j (by simp at hi; omega)]
            omega
/-- What is read, packed again, is what was read. -/
theorem readS_back {T : List UInt8} (h : (readS T).2.er = 0) : T = packL (flatB (readS T).1) ++ T.drop (readS T).2.pos ∧ (readS T).2.pos ≤ T.length ∧ (∀ p ∈ (readS T).1, 1 ≤ p.1 ∧ p.1 < T.length) ∧
    (∀ i (hi : i < (readS T).1.length), ((readS T).1[i]).2.length = min 32 ((flatB (readS T).1).length - 32 * i)) := by
  have htold := readS_told T
  have hall := htold.all h
  have hin := htold.inn.pos
  unfold readS at h hall hin ⊢
  have hi0 : In T (countS T ⟨0, 0, 0⟩).2 := In.count ⟨Nat.zero_le _, by simp⟩
  have hc0 : (countS T ⟨0, 0, 0⟩).2.er = 0 := by
    by_cases hz : (countS T ⟨0, 0, 0⟩).1 = 0
    · rw [hz] at h
      simpa [blocksF] using h
    · rw [blocksF, if_neg hz] at h
      simp only at h
      split at h
      · rename_i hb; exact absurd h hb
      · rename_i hb
        exact (blockS_up (by simpa using hb)).1
  obtain ⟨h1, h2, h3, h4⟩ := blocksF_back T _ _ _ (by omega) hc0 hi0 h
  have hcn : countS T ⟨0, 0, 0⟩ = numS T ⟨0, 0, 0⟩ := by
    unfold countS at hc0 ⊢
    split at hc0
    · have := (failS_ok hc0).2; omega
    · rename_i hh; rw [if_neg hh]
  have hn0 : (numS T ⟨0, 0, 0⟩).2.er = 0 := by rw [← hcn]; exact hc0
  obtain ⟨_, h5, h6, h7⟩ := numS_back hn0
  rw [← hcn] at h5 h6 h7
  simp only [List.drop_zero] at h5 h6 h7
  rw [h6] at h1
  refine ⟨?_, hin, fun p hp => ?_, fun i hi => by rw [hall]; exact h4 i hi⟩
  · conv => lhs; rw [h5, h1]
    rw [packL_R, hall, List.append_assoc]
  · have := h2 p hp; omega
end Go.Proofs.Ytfjjigcghhohkaa
