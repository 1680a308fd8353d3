/-
  Mine: plain mathematics of layer 4: files that rise by name, where one is found, put in and taken out.
-/
set_option linter.unusedVariables false
namespace Go.Proofs.Dsk

structure File where
  name : ByteArray
  data : ByteArray
  synced : Int
deriving DecidableEq, Inhabited

structure Fs where
  room : Int
  files : List File
  fuse : Int
  fault : Int
  down : Bool
deriving DecidableEq, Inhabited

/-- A name is ahead of another one. -/
def lt (a b : ByteArray) : Prop := a.data.toList < b.data.toList
instance (a b : ByteArray) : Decidable (lt a b) := inferInstanceAs (Decidable (a.data.toList < b.data.toList))

theorem ext_toList {a b : ByteArray} (h : a.data.toList = b.data.toList) : a = b := by
  cases a; cases b; simp at h; exact congrArg ByteArray.mk h

theorem lt_irrefl (a : ByteArray) : ¬ lt a a := List.lt_irrefl _
theorem lt_trans {a b c : ByteArray} (h : lt a b) (k : lt b c) : lt a c := List.lt_trans h k
theorem lt_total {a b : ByteArray} (h : ¬ lt a b) (k : ¬ lt b a) : a = b := by
  have h' : b.data.toList ≤ a.data.toList := List.not_lt.1 h
  have k' : a.data.toList ≤ b.data.toList := List.not_lt.1 k
  exact ext_toList (List.le_antisymm k' h')
theorem lt_ne {a b : ByteArray} (h : lt a b) : a ≠ b := fun e => lt_irrefl a (e ▸ h)
theorem lt_asymm {a b : ByteArray} (h : lt a b) : ¬ lt b a := fun k => lt_irrefl a (lt_trans h k)

/-- Names rise. -/
def Rise (l : List File) : Prop := l.Pairwise fun a b => lt a.name b.name

/-- How many names are ahead of n. -/
def lb (l : List File) (n : ByteArray) : Nat := l.countP fun f => decide (lt f.name n)
/-- Whether there is a file of that name. -/
def has (l : List File) (n : ByteArray) : Bool := l.any fun f => decide (f.name = n)

theorem has_iff {l : List File} {n : ByteArray} : has l n = true ↔ ∃ f ∈ l, f.name = n := by simp [has]

theorem lb_le (l : List File) (n : ByteArray) : lb l n ≤ l.length := List.countP_le_length

theorem lb_cons (f : File) (l : List File) (n : ByteArray) : lb (f :: l) n = lb l n + if lt f.name n then 1 else 0 := by
  unfold lb; rw [List.countP_cons]; simp

theorem lb_zero {f : File} {l : List File} (h : Rise (f :: l)) {n : ByteArray} (hn : ¬ lt f.name n) : lb (f :: l) n = 0 := by
  unfold lb
  rw [List.countP_eq_zero]
  intro g hg
  simp only [decide_eq_true_eq]
  rcases List.mem_cons.1 hg with rfl | hg
  · exact hn
  · intro hgn
    have := (List.pairwise_cons.1 h).1 g hg
    exact hn (lt_trans this hgn)

theorem rise_tail {f : File} {l : List File} (h : Rise (f :: l)) : Rise l := (List.pairwise_cons.1 h).2

theorem lb_before : ∀ {l : List File} (h : Rise l) {n : ByteArray} {i : Nat} (hi : i < l.length), i < lb l n → lt (l[i]).name n
  | [], _, _, i, hi, _ => by simp at hi
  | f :: l, h, n, i, hi, hl => by
    by_cases hf : lt f.name n
    · cases i with
      | zero => simpa using hf
      | succ i =>
        rw [lb_cons, if_pos hf] at hl
        have := lb_before (rise_tail h) (n := n) (i := i) (by simpa using hi) (by omega)
        simpa using this
    · rw [lb_zero h hf] at hl; omega

theorem lb_behind : ∀ {l : List File} (h : Rise l) {n : ByteArray} {i : Nat} (hi : i < l.length), lb l n ≤ i → ¬ lt (l[i]).name n
  | [], _, _, i, hi, _ => by simp at hi
  | f :: l, h, n, i, hi, hl => by
    by_cases hf : lt f.name n
    · rw [lb_cons, if_pos hf] at hl
      cases i with
      | zero => omega
      | succ i =>
        have := lb_behind (rise_tail h) (n := n) (i := i) (by simpa using hi) (by omega)
        simpa using this
    · intro hlt
      cases i with
      | zero => exact hf (by simpa using hlt)
      | succ i =>
        have hm := (List.pairwise_cons.1 h).1 (l[i]'(by simpa using hi)) (List.getElem_mem _)
        exact hf (lt_trans hm (by simpa using hlt))

theorem rise_get {l : List File} (h : Rise l) {i j : Nat} (hj : j < l.length) (hij : i < j) : lt (l[i]'(by omega)).name (l[j]).name :=
  List.pairwise_iff_getElem.1 h i j (by omega) hj hij

/-- Where a file of that name is. -/
theorem at_lb {l : List File} (h : Rise l) {n : ByteArray} {i : Nat} (hi : i < l.length) (hn : (l[i]).name = n) : lb l n = i := by
  rcases Nat.lt_trichotomy (lb l n) i with hl | hl | hl
  · have h1 := lb_behind h (n := n) (i := lb l n) (by omega) (Nat.le_refl _)
    have h2 := rise_get h hi hl
    rw [hn] at h2
    exact absurd h2 h1
  · exact hl
  · have h1 := lb_before h (n := n) hi hl
    rw [hn] at h1
    exact absurd h1 (lt_irrefl _)

theorem has_lb {l : List File} (h : Rise l) {n : ByteArray} (hn : has l n = true) : ∃ hl : lb l n < l.length, (l[lb l n]).name = n := by
  obtain ⟨f, hf, hfn⟩ := has_iff.1 hn
  obtain ⟨i, hi, rfl⟩ := List.getElem_of_mem hf
  have := at_lb h hi hfn
  subst this
  exact ⟨hi, hfn⟩

theorem lb_has {l : List File} {n : ByteArray} (hl : lb l n < l.length) (hn : (l[lb l n]).name = n) : has l n = true :=
  has_iff.2 ⟨_, List.getElem_mem hl, hn⟩

/-- What the search tells. -/
theorem found_eq {l : List File} (h : Rise l) (n : ByteArray) : has l n = (decide (lb l n < l.length) && decide ((l[lb l n]!).name = n)) := by
  by_cases hh : has l n = true
  · obtain ⟨hl, hn⟩ := has_lb h hh
    rw [hh, getElem!_pos l _ hl]
    simp [hl, hn]
  · rw [Bool.not_eq_true] at hh
    rw [hh]
    symm
    rw [Bool.and_eq_false_iff]
    by_cases hl : lb l n < l.length
    · right
      rw [getElem!_pos l _ hl]
      simp only [decide_eq_false_iff_not]
      intro hn
      rw [lb_has hl hn] at hh
      cases hh
    · left; simpa using hl

theorem has_not {l : List File} {n : ByteArray} (h : has l n = false) : ∀ f ∈ l, f.name ≠ n := by
  intro f hf e
  rw [has_iff.2 ⟨f, hf, e⟩] at h
  cases h

/-- Taken out. -/
theorem erase_filter {l : List File} (h : Rise l) {i : Nat} (hi : i < l.length) : l.eraseIdx i = l.filter fun f => decide (f.name ≠ (l[i]).name) := by
  induction l generalizing i with
  | nil => simp at hi
  | cons f l ih =>
    have hc := List.pairwise_cons.1 h
    cases i with
    | zero =>
      simp only [List.eraseIdx_cons_zero, List.getElem_cons_zero]
      rw [List.filter_cons_of_neg (by simp)]
      symm
      rw [List.filter_eq_self]
      intro g hg
      simp only [ne_eq, decide_not, Bool.not_eq_true', decide_eq_false_iff_not]
      exact fun e => lt_ne (hc.1 g hg) e.symm
    | succ i =>
      have hi' : i < l.length := by simpa using hi
      simp only [List.eraseIdx_cons_succ, List.getElem_cons_succ]
      rw [List.filter_cons_of_pos, ih hc.2 hi']
      simp only [ne_eq, decide_not, Bool.not_eq_true', decide_eq_false_iff_not]
      exact lt_ne (hc.1 _ (List.getElem_mem hi'))

theorem rise_erase {l : List File} (h : Rise l) (i : Nat) : Rise (l.eraseIdx i) := List.Pairwise.sublist (List.eraseIdx_sublist l i) h
theorem rise_filter {l : List File} (h : Rise l) (p : File → Bool) : Rise (l.filter p) := List.Pairwise.sublist List.filter_sublist h

/-- Put in. -/
theorem rise_insert : ∀ {l : List File} (h : Rise l) {f : File} (hn : has l f.name = false), Rise (l.insertIdx (lb l f.name) f)
  | [], _, f, _ => by simp [lb, Rise]
  | g :: l, h, f, hn => by
    have hc := List.pairwise_cons.1 h
    by_cases hg : lt g.name f.name
    · rw [lb_cons, if_pos hg, List.insertIdx_succ_cons]
      have hn' : has l f.name = false := by
        have := hn; unfold has at this ⊢; simp only [List.any_cons, Bool.or_eq_false_iff] at this; exact this.2
      have ih := rise_insert hc.2 hn'
      refine List.pairwise_cons.2 ⟨?_, ih⟩
      intro x hx
      rcases (List.mem_insertIdx (lb_le _ _)).1 hx with rfl | hx
      · exact hg
      · exact hc.1 x hx
    · rw [lb_zero h hg, List.insertIdx_zero]
      have hfg : lt f.name g.name := by
        have hne : g.name ≠ f.name := has_not hn g (List.mem_cons_self ..)
        by_cases h2 : lt f.name g.name
        · exact h2
        · exact absurd (lt_total hg h2) hne
      refine List.pairwise_cons.2 ⟨?_, h⟩
      intro x hx
      rcases List.mem_cons.1 hx with rfl | hx
      · exact hfg
      · exact lt_trans hfg (hc.1 x hx)

theorem rise_set {l : List File} (h : Rise l) {i : Nat} (hi : i < l.length) {f : File} (hf : f.name = (l[i]).name) : Rise (l.set i f) := by
  rw [Rise, List.pairwise_iff_getElem] at h ⊢
  intro a b ha hb hab
  rw [List.length_set] at ha hb
  have := h a b ha hb hab
  rw [List.getElem_set, List.getElem_set]
  by_cases h1 : i = a <;> by_cases h2 : i = b
  · omega
  · subst h1; simp only [if_true, if_neg h2]; rw [hf]; exact this
  · subst h2; simp only [if_true, if_neg h1]; rw [hf]; exact this
  · simp only [if_neg h1, if_neg h2]; exact this

/-- The place by going through. -/
theorem take_lb {l : List File} (h : Rise l) (n : ByteArray) : (l.takeWhile fun f => decide (lt f.name n)).length = lb l n := by
  induction l with
  | nil => simp [lb]
  | cons f l ih =>
    by_cases hf : lt f.name n
    · rw [List.takeWhile_cons_of_pos (by simpa using hf), List.length_cons, ih (rise_tail h), lb_cons, if_pos hf]
    · rw [List.takeWhile_cons_of_neg (by simpa using hf), lb_zero h hf]; rfl

def named (s : ByteArray) : Bool := decide (s.size ≠ 0) && decide (s.size ≤ 64)
def used (l : List File) : Nat := (l.map fun f => f.data.size).sum
def fileOk (f : File) : Bool := named f.name && decide (0 ≤ f.synced) && decide (f.synced ≤ f.data.size)
instance (l : List File) : Decidable (Rise l) := inferInstanceAs (Decidable (l.Pairwise fun a b => lt a.name b.name))
def headOk (d : Fs) : Bool := decide (0 ≤ d.room) && decide (d.room ≤ 16777216) && decide (d.files.length ≤ 1024) && decide (-1 ≤ d.fuse) && decide (-1 ≤ d.fault)
/-- A file system is right. -/
def right (d : Fs) : Bool := headOk d && (decide ((used d.files : Int) ≤ d.room) && (d.files.all fileOk && decide (Rise d.files)))

def zeroFs : Fs := ⟨0, [], 0, 0, false⟩
def ready (d : Fs) : Nat := if right d = false then 2 else if d.down = true then 9 else 0
def workR (d : Fs) (f : Fs → Fs × Nat) : Fs × Nat := if right d = false then (zeroFs, 2) else if d.down = true then (d, 9) else f d
/-- What is left of the power and of the luck behind a change that is done. -/
def spent (d : Fs) : Fs := { d with fuse := if 0 < d.fuse then d.fuse - 1 else d.fuse, fault := if 0 < d.fault then d.fault - 1 else d.fault }
def changeR (d : Fs) (f : Fs → Fs) : Fs × Nat :=
  if d.fuse = 0 then ({ d with down := true }, 9)
  else if d.fault = 0 then ({ d with fuse := if 0 < d.fuse then d.fuse - 1 else d.fuse, fault := -1 }, 10)
  else (f (spent d), 0)
def onR (name : ByteArray) (f : Nat → Fs → Fs × Nat) (d : Fs) : Fs × Nat := if has d.files name = true then f (lb d.files name) d else (d, 3)

def createR (d : Fs) (name : ByteArray) : Fs × Nat := workR d fun d =>
  if named name = false then (d, 1) else if has d.files name = true then (d, 4) else if d.files.length = 1024 then (d, 8)
  else changeR d fun d => { d with files := d.files.insertIdx (lb d.files name) ⟨name, ByteArray.empty, 0⟩ }

def total (l : List ByteArray) : Nat := (l.map fun s => s.size).sum
def joinB (s : ByteArray) (l : List ByteArray) : ByteArray := ⟨(s.data.toList ++ l.flatMap fun t => t.data.toList).toArray⟩
def putAt (i : Nat) (data : List ByteArray) (d : Fs) : Fs := { d with files := d.files.modify i fun f => { f with data := joinB f.data data } }
def appendR (d : Fs) (name : ByteArray) (data : List ByteArray) : Fs × Nat := workR d <| onR name fun i d =>
  if (used d.files + total data : Int) ≤ d.room then changeR (if d.fuse = 0 then putAt i data d else d) (putAt i data) else (d, 8)

def syncR (d : Fs) (name : ByteArray) : Fs × Nat := workR d <| onR name fun i d =>
  changeR d fun d => { d with files := d.files.modify i fun f => { f with synced := f.data.size } }

def renL (l : List File) (i : Nat) (to : ByteArray) : List File :=
  let f : File := { l[i]! with name := to }
  let l1 := l.eraseIdx i
  if has l1 to = true then l1.set (lb l1 to) f else l1.insertIdx (lb l1 to) f
def renameR (d : Fs) (fr to : ByteArray) : Fs × Nat := workR d <| onR fr fun i d =>
  if named to = false then (d, 1) else changeR d fun d => { d with files := renL d.files i to }

def deleteR (d : Fs) (name : ByteArray) : Fs × Nat := workR d <| onR name fun i d =>
  changeR d fun d => { d with files := d.files.eraseIdx i }

def readR (d : Fs) (name : ByteArray) : ByteArray × Nat :=
  if right d = false then (ByteArray.empty, 2) else if d.down = true then (ByteArray.empty, 9)
  else if has d.files name = true then ((d.files[lb d.files name]!).data, 0) else (ByteArray.empty, 3)

def listR (d : Fs) : List ByteArray × Nat :=
  if right d = false then ([], 2) else if d.down = true then ([], 9) else (d.files.map fun f => f.name, 0)

def keepAt (keep : List Int) (i : Nat) (f : File) : File :=
  let more : Int := if i < keep.length then min (max (keep[i]!) 0) (f.data.size - f.synced) else 0
  { f with data := f.data.extract 0 (f.synced + more).toNat, synced := f.synced + more }
def crashR (d : Fs) (keep : List Int) : Fs × Nat :=
  if right d = false then (zeroFs, 2) else (⟨d.room, d.files.mapIdx (keepAt keep), -1, -1, false⟩, 0)

def cutR (d : Fs) (name : ByteArray) (n : Int) : Fs × Nat := workR d <| onR name fun i d =>
  if n < 0 ∨ (d.files[i]!).data.size < n then (d, 1) else ({ d with files := d.files.modify i fun f => { f with data := f.data.extract 0 n.toNat, synced := min f.synced n } }, 0)

def makeR (room : Int) : Fs × Nat := if 0 ≤ room ∧ room ≤ 16777216 then (⟨room, [], -1, -1, false⟩, 0) else (zeroFs, 1)

end Go.Proofs.Dsk
