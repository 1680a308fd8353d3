/-
  Dictionaries in plain mathematics: their bytes, what bytes begin with, and that the two are each other's way back.
-/
import Derived.Test.YtlolilhlpbpfjaaGreatDoorNum
set_option linter.unusedVariables false
namespace Go.Proofs.Dct
open Go.Proofs.Num

/-- An entry: its key and its data. -/
abbrev EntL := Nat × List UInt8
def szE (e : EntL) : Nat × Nat := (e.1, e.2.length)
/-- The bytes of entries without their data. -/
def heads : Nat → List (Nat × Nat) → List UInt8
  | _, [] => []
  | least, (k, n) :: r => putL (k - least) ++ (putL n ++ heads (k + 1) r)
def datas (l : List EntL) : List UInt8 := l.flatMap (·.2)
/-- Whether keys rise, from one on. -/
def rises : Nat → List Nat → Bool
  | _, [] => true
  | least, k :: r => decide (least ≤ k) && rises (k + 1) r
def keysE (l : List EntL) : List Nat := l.map (·.1)
def writeD (l : List EntL) : List UInt8 × Nat :=
  if rises 0 (keysE l) = true then if l.length ≤ 65536 then (putL l.length ++ (heads 0 (l.map szE) ++ datas l), 0) else ([], 15) else ([], 12)

/-- Reading the entries without their data. -/
def readHF (s : List UInt8) : Nat → List (Nat × Nat) → Nat → Nat → Except Nat (List (Nat × Nat) × Nat)
  | 0, acc, _, p => .ok (acc, p)
  | c + 1, acc, least, p =>
    if (scanL (s.drop p)).2.2 ≠ 0 then .error (scanL (s.drop p)).2.2
    else if 18446744073709551615 < least + (scanL (s.drop p)).1 then .error 7
    else if (scanL (s.drop (p + (scanL (s.drop p)).2.1))).2.2 ≠ 0 then .error (scanL (s.drop (p + (scanL (s.drop p)).2.1))).2.2
    else readHF s c (acc ++ [(least + (scanL (s.drop p)).1, (scanL (s.drop (p + (scanL (s.drop p)).2.1))).1)]) (least + (scanL (s.drop p)).1 + 1) (p + (scanL (s.drop p)).2.1 + (scanL (s.drop (p + (scanL (s.drop p)).2.1))).2.1)
/-- Reading the data. -/
def readTF (s : List UInt8) : List (Nat × Nat) → List EntL → Nat → Option (List EntL × Nat)
  | [], acc, p => some (acc, p)
  | (k, n) :: r, acc, p => if s.length - p < n then none else readTF s r (acc ++ [(k, (s.drop p).take n)]) (p + n)
def readE (s : List UInt8) : Except Nat (List (Nat × Nat) × Nat) :=
  if (scanL s).2.2 ≠ 0 then .error (scanL s).2.2 else if 65536 < (scanL s).1 then .error 15 else readHF s (scanL s).1 [] 0 (scanL s).2.1
def readD (s : List UInt8) : Except Nat (List EntL × Nat) :=
  match readE s with
  | .error e => .error e
  | .ok (hs, p) => match readTF s hs [] p with
    | none => .error 5
    | some x => .ok x

theorem readHF_err1 {s : List UInt8} {c m z e least p : Nat} {acc : List (Nat × Nat)} (h : scanL (s.drop p) = (m, z, e)) (he : e ≠ 0) : readHF s (c + 1) acc least p = .error e := by
  rw [readHF, h, if_pos he]
theorem readHF_code {s : List UInt8} {c m z least p : Nat} {acc : List (Nat × Nat)} (h : scanL (s.drop p) = (m, z, 0)) (he : 18446744073709551615 < least + m) : readHF s (c + 1) acc least p = .error 7 := by
  rw [readHF, h, if_neg (by simp), if_pos he]
theorem readHF_err2 {s : List UInt8} {c m z n z2 e least p : Nat} {acc : List (Nat × Nat)} (h : scanL (s.drop p) = (m, z, 0)) (hl : ¬ 18446744073709551615 < least + m) (h2 : scanL (s.drop (p + z)) = (n, z2, e)) (he : e ≠ 0) : readHF s (c + 1) acc least p = .error e := by
  rw [readHF, h, if_neg (by simp), if_neg hl]
  simp only [h2]
  rw [if_pos he]
theorem readHF_step {s : List UInt8} {c m z n z2 least p : Nat} {acc : List (Nat × Nat)} (h : scanL (s.drop p) = (m, z, 0)) (hl : ¬ 18446744073709551615 < least + m) (h2 : scanL (s.drop (p + z)) = (n, z2, 0)) : readHF s (c + 1) acc least p = readHF s c (acc ++ [(least + m, n)]) (least + m + 1) (p + z + z2) := by
  rw [readHF, h, if_neg (by simp), if_neg hl]
  simp only [h2]
  rw [if_neg (by simp)]

theorem scan_take : ∀ (s : List UInt8) (i n : Nat), i ≤ 9 → scanFrom (s.take (10 - i)) i n = scanFrom s i n := by
  intro s
  induction s with
  | nil => intro i n _; simp
  | cons b r ih =>
    intro i n hi
    obtain ⟨k, hk⟩ : ∃ k, 10 - i = k + 1 := ⟨9 - i, by omega⟩
    rw [hk, List.take_succ_cons]
    simp only [scanFrom]
    by_cases h9 : i = 9 ∧ 1 < b.toNat
    · rw [if_pos h9, if_pos h9]
    · rw [if_neg h9, if_neg h9]
      by_cases h128 : 128 ≤ b.toNat
      · rw [if_pos h128, if_pos h128]
        have hi8 : i ≤ 8 := by
          rcases Nat.lt_or_ge i 9 with h' | h'
          · omega
          · exact absurd ⟨by omega, by omega⟩ h9
        have := ih (i + 1) (n + b.toNat % 128 * 2 ^ (7 * i)) (by omega)
        rw [show 10 - (i + 1) = k by omega] at this
        exact this
      · rw [if_neg h128, if_neg h128]
/-- Ten bytes tell all. -/
theorem scanL_take (s : List UInt8) : scanL (s.take 10) = scanL s := scan_take s 0 0 (by omega)

theorem heads_append_len (least : Nat) : ∀ l : List (Nat × Nat), (∀ p ∈ l, p.1 ≤ 18446744073709551615 ∧ p.2 ≤ 18446744073709551615) → (heads least l).length ≤ 20 * l.length := by
  intro l
  induction l generalizing least with
  | nil => intro _; simp [heads]
  | cons p r ih =>
    intro h
    obtain ⟨k, n⟩ := p
    have h1 := h (k, n) (by simp)
    have h2 := ih (k + 1) (fun q hq => h q (by simp [hq]))
    have h3 := putL_len10 (n := k - least) (by have := h1.1; simp only at this; omega)
    have h4 := putL_len10 (n := n) (by have := h1.2; simp only at this; omega)
    simp only [heads, List.length_append, List.length_cons]
    omega

theorem readHF_heads (post : List UInt8) : ∀ (l : List (Nat × Nat)) (least : Nat) (acc : List (Nat × Nat)) (pre : List UInt8), rises least (l.map (·.1)) = true → (∀ p ∈ l, p.1 ≤ 18446744073709551615 ∧ p.2 ≤ 18446744073709551615) →
    readHF (pre ++ (heads least l ++ post)) l.length acc least pre.length = .ok (acc ++ l, pre.length + (heads least l).length) := by
  intro l
  induction l with
  | nil => intro least acc pre _ _; simp [readHF, heads]
  | cons p r ih =>
    intro least acc pre hr hb
    obtain ⟨k, n⟩ := p
    simp only [List.map_cons, rises, Bool.and_eq_true, decide_eq_true_eq] at hr
    have hkn := hb (k, n) (by simp)
    simp only at hkn
    have e1 : (pre ++ (heads least ((k, n) :: r) ++ post)).drop pre.length = putL (k - least) ++ (putL n ++ heads (k + 1) r ++ post) := by
      rw [List.drop_left]; simp [heads]
    have e2 : (pre ++ (heads least ((k, n) :: r) ++ post)).drop (pre.length + (putL (k - least)).length) = putL n ++ (heads (k + 1) r ++ post) := by
      rw [← List.drop_drop, e1, List.drop_left]; simp
    have s1 := scanL_put (k - least) (putL n ++ heads (k + 1) r ++ post) (by omega)
    have s2 := scanL_put n (heads (k + 1) r ++ post) (by omega)
    rw [← e1] at s1
    rw [← e2] at s2
    rw [List.length_cons, readHF_step s1 (by omega) s2, show least + (k - least) = k by omega]
    have e3 : pre ++ (heads least ((k, n) :: r) ++ post) = (pre ++ putL (k - least) ++ putL n) ++ (heads (k + 1) r ++ post) := by simp [heads]
    rw [e3]
    have := ih (k + 1) (acc ++ [(k, n)]) (pre ++ putL (k - least) ++ putL n) hr.2 (fun q hq => hb q (by simp [hq]))
    rw [show pre.length + (putL (k - least)).length + (putL n).length = (pre ++ putL (k - least) ++ putL n).length by simp; omega, this]
    simp [heads]
    omega

theorem datas_cons (e : EntL) (l : List EntL) : datas (e :: l) = e.2 ++ datas l := by simp [datas]
theorem readTF_datas (post : List UInt8) : ∀ (l acc : List EntL) (pre : List UInt8), readTF (pre ++ (datas l ++ post)) (l.map szE) acc pre.length = some (acc ++ l, pre.length + (datas l).length) := by
  intro l
  induction l with
  | nil => intro acc pre; simp [readTF, datas]
  | cons e r ih =>
    intro acc pre
    obtain ⟨k, d⟩ := e
    simp only [List.map_cons, szE, readTF]
    rw [if_neg (by simp [datas_cons])]
    have e1 : ((pre ++ (datas ((k, d) :: r) ++ post)).drop pre.length).take d.length = d := by
      rw [List.drop_left, datas_cons]; simp
    have e3 : pre ++ (datas ((k, d) :: r) ++ post) = (pre ++ d) ++ (datas r ++ post) := by simp [datas_cons]
    rw [e1, e3]
    have := ih (acc ++ [(k, d)]) (pre ++ d)
    simp only [List.length_append] at this
    rw [this, datas_cons]
    simp
    omega

/-- Entries such as a program can hold. -/
def FitL (l : List EntL) : Prop := ∀ e ∈ l, e.1 ≤ 18446744073709551615 ∧ e.2.length ≤ 18446744073709551615
theorem fit_sz {l : List EntL} (h : FitL l) : ∀ p ∈ l.map szE, p.1 ≤ 18446744073709551615 ∧ p.2 ≤ 18446744073709551615 := by
  intro p hp
  obtain ⟨e, he, rfl⟩ := List.mem_map.1 hp
  exact h e he
theorem keys_sz (l : List EntL) : (l.map szE).map (·.1) = keysE l := by simp [keysE, szE]

theorem write_ok {l : List EntL} {t : List UInt8} (h : writeD l = (t, 0)) : rises 0 (keysE l) = true ∧ l.length ≤ 65536 ∧ t = putL l.length ++ (heads 0 (l.map szE) ++ datas l) := by
  unfold writeD at h
  split at h
  · rename_i h1
    split at h
    · rename_i h2
      exact ⟨h1, h2, (Prod.mk.inj h).1.symm⟩
    · have := (Prod.mk.inj h).2; omega
  · have := (Prod.mk.inj h).2; omega
theorem write_no {l : List EntL} {t : List UInt8} {c : Nat} (h : writeD l = (t, c)) (hc : c ≠ 0) : t = [] := by
  unfold writeD at h
  split at h
  · split at h
    · have := (Prod.mk.inj h).2; omega
    · exact (Prod.mk.inj h).1.symm
  · exact (Prod.mk.inj h).1.symm

/-- What is written is read, whatever stands behind it. -/
theorem read_written {l : List EntL} {t : List UInt8} (s : List UInt8) (hf : FitL l) (h : writeD l = (t, 0)) : readD (t ++ s) = .ok (l, t.length) := by
  obtain ⟨h1, h2, rfl⟩ := write_ok h
  have e0 : putL l.length ++ (heads 0 (l.map szE) ++ datas l) ++ s = putL l.length ++ (heads 0 (l.map szE) ++ (datas l ++ s)) := by simp
  have hs := scanL_put l.length (heads 0 (l.map szE) ++ (datas l ++ s)) (by omega)
  have hh := readHF_heads (datas l ++ s) (l.map szE) 0 [] (putL l.length) (by rw [keys_sz]; exact h1) (fit_sz hf)
  have hE : readE (putL l.length ++ (heads 0 (l.map szE) ++ (datas l ++ s))) = .ok (l.map szE, (putL l.length).length + (heads 0 (l.map szE)).length) := by
    unfold readE
    rw [hs, if_neg (by simp), if_neg (by simp only; omega)]
    rw [List.length_map] at hh
    simpa using hh
  unfold readD
  rw [e0, hE]
  simp only
  have e1 : putL l.length ++ (heads 0 (l.map szE) ++ (datas l ++ s)) = (putL l.length ++ heads 0 (l.map szE)) ++ (datas l ++ s) := by simp
  have ht := readTF_datas s l [] (putL l.length ++ heads 0 (l.map szE))
  rw [List.length_append] at ht
  rw [e1, ht]
  simp
  omega

theorem rises_mono : ∀ (l : List Nat) (a b : Nat), a ≤ b → rises b l = true → rises a l = true := by
  intro l a b h
  cases l with
  | nil => simp [rises]
  | cons k r => simp only [rises, Bool.and_eq_true, decide_eq_true_eq]; rintro ⟨h1, h2⟩; exact ⟨by omega, h2⟩

theorem drop_scan {s : List UInt8} {p m z : Nat} (h : scanL (s.drop p) = (m, z, 0)) : s.drop p = putL m ++ s.drop (p + z) ∧ m ≤ 18446744073709551615 ∧ p + z ≤ s.length ∧ 1 ≤ z := by
  obtain ⟨h1, h2, h3, _⟩ := scanL_ok h
  rw [List.drop_drop] at h1
  have hl := congrArg List.length h1
  have hp := putL_pos m
  simp only [List.length_append, List.length_drop] at hl
  exact ⟨h1, by omega, by omega, by omega⟩

theorem readHF_ok (s : List UInt8) : ∀ (c : Nat) (acc : List (Nat × Nat)) (least p : Nat) (h : List (Nat × Nat)) (q : Nat), p ≤ s.length → readHF s c acc least p = .ok (h, q) →
    ∃ hs, h = acc ++ hs ∧ hs.length = c ∧ rises least (hs.map (·.1)) = true ∧ (∀ x ∈ hs, x.1 ≤ 18446744073709551615 ∧ x.2 ≤ 18446744073709551615) ∧ s.drop p = heads least hs ++ s.drop q ∧ q ≤ s.length ∧ p + 2 * c ≤ q := by
  intro c
  induction c with
  | zero =>
    intro acc least p h q hp he
    simp only [readHF, Except.ok.injEq, Prod.mk.injEq] at he
    obtain ⟨rfl, rfl⟩ := he
    exact ⟨[], by simp, rfl, rfl, by simp, by simp [heads], hp, by omega⟩
  | succ c ih =>
    intro acc least p h q hp he
    obtain ⟨m, z, e, h1⟩ : ∃ m z e, scanL (s.drop p) = (m, z, e) := ⟨_, _, _, rfl⟩
    by_cases he0 : e = 0
    · subst he0
      by_cases hl : 18446744073709551615 < least + m
      · rw [readHF_code h1 hl] at he; cases he
      · obtain ⟨n, z2, e2, h2⟩ : ∃ n z2 e2, scanL (s.drop (p + z)) = (n, z2, e2) := ⟨_, _, _, rfl⟩
        by_cases he2 : e2 = 0
        · subst he2
          rw [readHF_step h1 hl h2] at he
          obtain ⟨a1, a2, a3, a4⟩ := drop_scan h1
          obtain ⟨b1, b2, b3, b4⟩ := drop_scan h2
          obtain ⟨hs, r1, r2, r3, r4, r5, r6, r7⟩ := ih _ _ _ h q b3 he
          refine ⟨(least + m, n) :: hs, by rw [r1]; simp, by simp [r2], ?_, ?_, ?_, r6, by omega⟩
          · simp only [List.map_cons, rises, r3, Bool.and_true, decide_eq_true_eq]; omega
          · intro x hx
            rcases List.mem_cons.1 hx with rfl | hx
            · exact ⟨by simp only; omega, b2⟩
            · exact r4 x hx
          · rw [a1, b1, r5]
            simp [heads]
        · rw [readHF_err2 h1 hl h2 he2] at he; cases he
    · rw [readHF_err1 h1 he0] at he; cases he

theorem readTF_ok (s : List UInt8) : ∀ (hs : List (Nat × Nat)) (acc : List EntL) (p : Nat) (l : List EntL) (q : Nat), p ≤ s.length → readTF s hs acc p = some (l, q) →
    ∃ es, l = acc ++ es ∧ es.map szE = hs ∧ s.drop p = datas es ++ s.drop q ∧ q ≤ s.length ∧ q = p + (datas es).length := by
  intro hs
  induction hs with
  | nil =>
    intro acc p l q hp he
    simp only [readTF, Option.some.injEq, Prod.mk.injEq] at he
    obtain ⟨rfl, rfl⟩ := he
    exact ⟨[], by simp, rfl, by simp [datas], hp, by simp [datas]⟩
  | cons x r ih =>
    intro acc p l q hp he
    obtain ⟨k, n⟩ := x
    simp only [readTF] at he
    split at he
    · cases he
    · rename_i hn
      obtain ⟨es, r1, r2, r3, r4, r5⟩ := ih _ _ l q (by omega) he
      have hl : ((s.drop p).take n).length = n := by rw [List.length_take, List.length_drop]; omega
      refine ⟨(k, (s.drop p).take n) :: es, by rw [r1]; simp, by simp [szE, r2, hl], ?_, r4, ?_⟩
      · rw [datas_cons, List.append_assoc, ← r3, ← List.drop_drop]
        exact (List.take_append_drop n (s.drop p)).symm
      · rw [datas_cons, List.length_append, r5]
        simp only [hl]
        omega

theorem readE_ok {s : List UInt8} {hs : List (Nat × Nat)} {p : Nat} (h : readE s = .ok (hs, p)) : hs.length ≤ 65536 ∧ rises 0 (hs.map (·.1)) = true ∧ (∀ x ∈ hs, x.1 ≤ 18446744073709551615 ∧ x.2 ≤ 18446744073709551615) ∧ s = putL hs.length ++ (heads 0 hs ++ s.drop p) ∧ p ≤ s.length ∧ 2 * hs.length ≤ p := by
  unfold readE at h
  obtain ⟨m, z, e, h1⟩ : ∃ m z e, scanL s = (m, z, e) := ⟨_, _, _, rfl⟩
  rw [h1] at h
  by_cases he : e = 0
  · subst he
    rw [if_neg (by simp)] at h
    by_cases hm : 65536 < m
    · rw [if_pos hm] at h; cases h
    · rw [if_neg hm] at h
      have h1' : scanL (s.drop 0) = (m, z, 0) := by simpa using h1
      obtain ⟨a1, a2, a3, a4⟩ := drop_scan h1'
      rw [Nat.zero_add, List.drop_zero] at a1
      obtain ⟨hs', r1, r2, r3, r4, r5, r6, r7⟩ := readHF_ok s m [] 0 z hs p (by omega) h
      have : hs = hs' := by simpa using r1
      subst this
      refine ⟨by omega, r3, r4, ?_, r6, by omega⟩
      rw [r2, ← r5, ← a1]
  · rw [if_pos he] at h; cases h

/-- What is read is written with its bytes. -/
theorem read_ok {s : List UInt8} {l : List EntL} {q : Nat} (h : readD s = .ok (l, q)) : writeD l = (s.take q, 0) ∧ q ≤ s.length ∧ FitL l ∧ l.length ≤ 65536 ∧ (datas l).length ≤ s.length ∧ 2 * l.length ≤ s.length := by
  unfold readD at h
  split at h
  · cases h
  · rename_i hs p hE
    split at h
    · cases h
    · rename_i x hT
      simp only [Except.ok.injEq] at h
      subst h
      obtain ⟨a1, a2, a3, a4, a5, a6⟩ := readE_ok hE
      obtain ⟨es, r1, r2, r3, r4, r5⟩ := readTF_ok s hs [] p l q a5 hT
      have : l = es := by simpa using r1
      subst this
      subst r2
      rw [List.length_map] at a1 a4 a6
      rw [keys_sz] at a2
      have hw : writeD l = (putL l.length ++ (heads 0 (l.map szE) ++ datas l), 0) := by
        unfold writeD; rw [if_pos a2, if_pos a1]
      have hfull : s = (putL l.length ++ (heads 0 (l.map szE) ++ datas l)) ++ s.drop q := by
        rw [List.append_assoc, List.append_assoc, ← r3]; exact a4
      refine ⟨?_, r4, ?_, a1, by omega, by omega⟩
      · rw [hw]
        have hlen := congrArg List.length hfull
        simp only [List.length_append, List.length_drop] at hlen
        have : (putL l.length ++ (heads 0 (l.map szE) ++ datas l)).length = q := by
          simp only [List.length_append]; omega
        congr 1
        have h2 := congrArg (List.take q) hfull
        rw [← this, List.take_left, this] at h2
        exact h2.symm
      · intro e he
        exact a3 (szE e) (List.mem_map_of_mem he)
theorem szE_fst (e : EntL) : (szE e).1 = e.1 := rfl
theorem readE_err_code {s : List UInt8} {e : Nat} (h : readE s = .error e) : e ≠ 0 := by
  unfold readE at h
  have go : ∀ (c : Nat) (acc : List (Nat × Nat)) (least p : Nat), readHF s c acc least p = .error e → e ≠ 0 := by
    intro c
    induction c with
    | zero => intro acc least p h; simp [readHF] at h
    | succ c ih =>
      intro acc least p h
      rw [readHF] at h
      split at h
      · rename_i h1; injection h with h; rw [← h]; exact h1
      · split at h
        · injection h with h; omega
        · split at h
          · rename_i h1; injection h with h; rw [← h]; exact h1
          · exact ih _ _ _ h
  split at h
  · rename_i h1; injection h with h; rw [← h]; exact h1
  · split at h
    · injection h with h; omega
    · exact go _ _ _ _ h
theorem readD_err_code {s : List UInt8} {e : Nat} (h : readD s = .error e) : e ≠ 0 := by
  unfold readD at h
  split at h
  · rename_i h1; injection h with h; subst h; exact readE_err_code h1
  · split at h
    · injection h with h; omega
    · cases h
end Go.Proofs.Dct
