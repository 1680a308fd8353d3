/-
  What disk.ready and (disk.system).find do, over this seat's program: why a file system may not be asked, and where a file of a name is.
-/
import Derived.Test.YtpfmhlldkikbjaaDoorChl
import Derived.Lib.Bytealg
import Derived.Laws.BitsAllLaws
set_option linter.unusedVariables false
namespace Go.Proofs.YtpfmhlldkikbjaaDoor
open Go.RowKit Go.Proofs.Dsk

theorem check_any (d : Fs) (v : Value) (w : World) (hf : FitsFs d) (h : RowF w v d.files) :
    Calls Tryd.prog 19 #[fsV d v] w fun e w' => e = .returned (.int .i64 (if right d then 0 else 2)) ∧ Below w.heap.size w w' := by
  obtain ⟨a, cap, rfl, h63, hff, hc⟩ := h
  by_cases hh : headOk d = true
  · have h5 := headOk_yes.1 hh
    obtain ⟨room, files, fuse, fault, down⟩ := d
    exact check_loop room fuse fault down files a cap w h5.1 h5.2.1 h5.2.2.1 h5.2.2.2.1 h5.2.2.2.2 hf.2.1.2 hf.2.2.2 hff hc
  · rw [Bool.not_eq_true] at hh
    rw [right_head hh]
    exact check_head d a cap w hf h63 hh

set_option maxHeartbeats 1000000 in
set_option maxRecDepth 100000 in
theorem ready_any (d : Fs) (v : Value) (w : World) (hf : FitsFs d) (h : RowF w v d.files) :
    Calls Tryd.prog 36 #[fsV d v] w fun e w' => e = .returned (.int .i64 (ready d : Nat)) ∧ Below w.heap.size w w' := by
  have HK := hide (fun (w : World) (h : RowF w v d.files) => check_any d v w hf h)
  have HR := hide (h.below ((Below.refl _ w).alloc (Nat.le_refl _) (Obj.cells #[.int .i64 d.room, v, .int .i64 d.fuse, .int .i64 d.fault, .bool d.down] 31)))
  obtain ⟨a, cap, rfl, h63, hff, hc⟩ := h
  clear hc hff
  obtain ⟨rd, hrd⟩ : ∃ rd, rd = ready d := ⟨_, rfl⟩
  have HRD := hide hrd
  rw [← hrd]
  obtain ⟨room, files, fuse, fault, down⟩ := d
  simp only [fsV] at *
  unfold ready at hrd
  cases hr : right ⟨room, files, fuse, fault, down⟩ with
  | false =>
    rw [hr] at hrd HK
    have hk := fun w h => (unhide HK) w h
    simp only [Bool.false_eq_true, if_false, if_true] at hrd hk
    have HE := hide hrd
    clear hrd hr HK
    go_enter Tryd.func36, Tryd.ntmps36
    go_wp2_with fail
    refine (hk _ (unhide HR)).mono ?_
    rintro e w1 ⟨rfl, b1⟩
    go_wp2
    go_ret
    exact ⟨by rw [unhide HE]; rfl, below_alloc' b1⟩
  | true =>
    rw [hr] at hrd HK
    have hk := fun w h => (unhide HK) w h
    simp only [if_true, Bool.true_eq_false, if_false] at hrd hk
    have hbx : (w.alloc (Obj.cells #[.int .i64 room, .slice a files.length cap, .int .i64 fuse, .int .i64 fault, .bool down] 31)).cell? ⟨w.heap.size, 4, none⟩ = some (.bool down) := by simp
    have HB := hide hbx
    have hszz : w.heap.size < (w.alloc (Obj.cells #[.int .i64 room, .slice a files.length cap, .int .i64 fuse, .int .i64 fault, .bool down] 31)).heap.size := by simp
    cases down with
    | false =>
      simp only [Bool.false_eq_true, if_false] at hrd
      have HE := hide hrd
      clear hrd hr HK hbx
      go_enter Tryd.func36, Tryd.ntmps36
      go_wp2_with fail
      refine (hk _ (unhide HR)).mono ?_
      rintro e w1 ⟨rfl, b1⟩
      have hd := (b1.cell (p := ⟨w.heap.size, 4, none⟩) hszz).trans (unhide HB)
      go_wp2
      go_ret
      exact ⟨by rw [unhide HE]; rfl, below_alloc' b1⟩
    | true =>
      simp only [if_true] at hrd
      have HE := hide hrd
      clear hrd hr HK hbx
      go_enter Tryd.func36, Tryd.ntmps36
      go_wp2_with fail
      refine (hk _ (unhide HR)).mono ?_
      rintro e w1 ⟨rfl, b1⟩
      have hd := (b1.cell (p := ⟨w.heap.size, 4, none⟩) hszz).trans (unhide HB)
      go_wp2
      go_ret
      exact ⟨by rw [unhide HE]; rfl, below_alloc' b1⟩

theorem cmp_neg : ∀ (a b : List UInt8), Lib.compareBytes a b < 0 ↔ a < b
  | [], [] => by simp [Lib.compareBytes]
  | [], _ :: _ => by simp [Lib.compareBytes]
  | _ :: _, [] => by simp [Lib.compareBytes]
  | a :: x, b :: y => by
    rw [List.cons_lt_cons_iff, ← cmp_neg x y]
    simp only [Lib.compareBytes]
    by_cases h1 : a < b
    · simp [h1]
    · by_cases h2 : b < a
      · have h3 : a ≠ b := fun e => by subst e; exact absurd h2 h1
        simp [h1, h2, h3]
      · have h3 : a = b := by
          have := UInt8.le_antisymm (UInt8.not_lt.1 h2) (UInt8.not_lt.1 h1)
          exact this
        simp [h3]
theorem cmp_zero : ∀ (a b : List UInt8), Lib.compareBytes a b = 0 ↔ a = b
  | [], [] => by simp [Lib.compareBytes]
  | [], _ :: _ => by simp [Lib.compareBytes]
  | _ :: _, [] => by simp [Lib.compareBytes]
  | a :: x, b :: y => by
    rw [List.cons.injEq, ← cmp_zero x y]
    simp only [Lib.compareBytes]
    by_cases h1 : a < b
    · have h3 : a ≠ b := fun e => by subst e; exact UInt8.lt_irrefl _ h1
      simp [h1, h3]
    · by_cases h2 : b < a
      · have h3 : a ≠ b := fun e => by subst e; exact absurd h2 h1
        simp [h1, h2, h3]
      · have h3 : a = b := UInt8.le_antisymm (UInt8.not_lt.1 h2) (UInt8.not_lt.1 h1)
        simp [h3]

/-- What strings.Compare says of two names. -/
def cmpS (a b : ByteArray) : Int := Lib.compareBytes a.data.toList b.data.toList
theorem cmpS_neg (a b : ByteArray) : cmpS a b < 0 ↔ lt a b := cmp_neg _ _
theorem cmpS_zero (a b : ByteArray) : cmpS a b = 0 ↔ a = b := by
  unfold cmpS; rw [cmp_zero]; exact ⟨ext_toList, fun h => by rw [h]⟩

set_option maxHeartbeats 400000 in
theorem cmpF_any (f : File) (n : ByteArray) (w : World) :
    Calls Tryd.prog 44 #[.agg #[.string f.name, .string f.data, .int .i64 f.synced], .string n] w fun e w' => e = .returned (.int .i64 (cmpS f.name n)) ∧ Below w.heap.size w w' := by
  have hc := fun w => Tryd.strings_Compare f.name n w
  have he : Lib.compareBytes f.name.data.toList n.data.toList = cmpS f.name n := rfl
  rw [he] at hc
  clear he
  generalize cmpS f.name n = c at *
  go_enter Tryd.func44, Tryd.ntmps44
  go_wp2_with (go_at_call 45; refine (hc _).mono ?_; rintro e w1 ⟨rfl, rfl⟩)
  go_ret
  exact ⟨rfl, (Below.refl _ w).alloc (Nat.le_refl _) _⟩

theorem lb_eq {l : List File} (h : Rise l) {n : ByteArray} {i : Nat} (hi : i ≤ l.length) (h1 : ∀ t (ht : t < l.length), t < i → lt l[t].name n) (h2 : ∀ t (ht : t < l.length), i ≤ t → ¬ lt l[t].name n) : lb l n = i := by
  have hle := lb_le l n
  rcases Nat.lt_trichotomy (lb l n) i with hl | hl | hl
  · exact absurd (h1 (lb l n) (by omega) hl) (lb_behind h (by omega) (Nat.le_refl _))
  · exact hl
  · exact absurd (lb_before h (n := n) (i := i) (by omega) hl) (h2 i (by omega) (Nat.le_refl _))

set_option maxHeartbeats 2000000 in
set_option maxRecDepth 100000 in
theorem search_some (b off cap : Nat) (l : List File) (n : ByteArray) (w : World) (hri : Rise l) (h10 : l.length ≤ 1024) (hb : b < w.heap.size) (hcl : ∀ j u, (flatF l)[j]? = some u → w.cell? ⟨b, off + j, none⟩ = some u) :
    Calls Tryd.prog 43 #[.slice (some ⟨b, off, none⟩) l.length cap, .string n, .func (.func 44) #[] #[]] w fun e w' => e = .returned (.tuple #[.int .i64 (lb l n : Nat), .bool (has l n)]) ∧ Below w.heap.size w w' := by
  have HC := hide hcl
  have HRI := hide hri
  have HF := hide (found_eq hri n)
  clear hcl hri
  generalize hans : has l n = ans at *
  clear hans
  obtain ⟨lv, hlv⟩ : ∃ lv, lb l n = lv := ⟨_, rfl⟩
  rw [hlv] at HF ⊢
  have HLV := hide hlv
  clear hlv
  go_enter Tryd.func43, Tryd.ntmps43
  go_wp2
  go_loopw [9, 10, 11] (fun x y z wr => ∃ lo hi : Nat, x = .int .i64 lo ∧ y = .int .i64 hi ∧ lo ≤ hi ∧ hi ≤ l.length ∧ (∀ t (ht : t < l.length), t < lo → lt l[t].name n) ∧ (∀ t (ht : t < l.length), hi ≤ t → ¬ lt l[t].name n) ∧ Below w.heap.size w wr) (fun x y _ _ => (intOf y).toNat - (intOf x).toNat)
  case atStart => exact ⟨0, l.length, rfl, rfl, Nat.zero_le _, Nat.le_refl _, fun t ht h => absurd h (Nat.not_lt_zero _), fun t ht h => by omega, Below.refl _ _⟩
  case round =>
    obtain ⟨lo, hi, rfl, rfl, hlh, hhl, hlo, hhi, hbw⟩ := hrel
    have HLO := hide hlo
    have HHI := hide hhi
    have hws := hbw.size
    clear hlo hhi
    by_cases hlt : lo < hi
    · obtain ⟨m, hm⟩ : ∃ m, m = (lo + hi) / 2 := ⟨_, rfl⟩
      have hml : m < l.length := by omega
      have hmi : ((lo : Int) + (hi : Int)) / 2 = (m : Int) := by omega
      have hm1 : lo ≤ m := by omega
      have hm2 : m < hi := by omega
      clear hm
      obtain ⟨c0, c1, c2⟩ := row_cells (unhide HC) hml
      have x0 : wr.cell? ⟨b, off + m * 3, none⟩ = some (.string l[m].name) := (hbw.cell (p := ⟨b, off + m * 3, none⟩) hb).trans c0
      have x1 : wr.cell? ⟨b, off + m * 3 + 1, none⟩ = some (.string l[m].data) := (hbw.cell (p := ⟨b, off + m * 3 + 1, none⟩) hb).trans c1
      have x2 : wr.cell? ⟨b, off + m * 3 + 2, none⟩ = some (.int .i64 l[m].synced) := (hbw.cell (p := ⟨b, off + m * 3 + 2, none⟩) hb).trans c2
      have hcm := cmpF_any l[m] n wr
      have hng := cmpS_neg l[m].name n
      clear c0 c1 c2
      by_cases hq : lt l[m].name n
      · have hneg := hng.2 hq
        have HN := hide (show ∀ t (ht : t < l.length), t < m + 1 → lt l[t].name n from fun t ht h => by
          rcases Nat.lt_or_ge t m with h' | h'
          · exact lt_trans (rise_get (unhide HRI) hml h') hq
          · have : t = m := by omega
            subst this; exact hq)
        clear hng hq
        generalize cmpS l[m].name n = c at *
        generalize l[m] = f at *
        go_wp2_with fail
        refine hcm.mono ?_
        rintro e w1 ⟨rfl, b1⟩
        go_wp2
        exact ⟨⟨m + 1, hi, by go_num, rfl, by omega, hhl, unhide HN, unhide HHI, belows hbw b1⟩, by simp [intOf]; omega⟩
      · have hneg : ¬ cmpS l[m].name n < 0 := fun h => hq (hng.1 h)
        have HN := hide (show ∀ t (ht : t < l.length), m ≤ t → ¬ lt l[t].name n from fun t ht h => by
          rcases Nat.lt_or_ge m t with h' | h'
          · exact fun h2 => hq (lt_trans (rise_get (unhide HRI) ht h') h2)
          · have : t = m := by omega
            subst this; exact hq)
        clear hng hq
        generalize cmpS l[m].name n = c at *
        generalize l[m] = f at *
        go_wp2_with fail
        refine hcm.mono ?_
        rintro e w1 ⟨rfl, b1⟩
        go_wp2
        exact ⟨⟨lo, m, rfl, by go_num, by omega, by omega, unhide HLO, unhide HN, belows hbw b1⟩, by simp [intOf]; omega⟩
    · have hle : hi = lo := by omega
      subst hle
      have hlb : hi = lv := (lb_eq (unhide HRI) hhl (unhide HLO) (unhide HHI)).symm.trans (unhide HLV)
      have hf := unhide HF
      subst hlb
      by_cases hn : hi < l.length
      · obtain ⟨c0, c1, c2⟩ := row_cells (unhide HC) hn
        have x0 : wr.cell? ⟨b, off + hi * 3, none⟩ = some (.string l[hi].name) := (hbw.cell (p := ⟨b, off + hi * 3, none⟩) hb).trans c0
        have x1 : wr.cell? ⟨b, off + hi * 3 + 1, none⟩ = some (.string l[hi].data) := (hbw.cell (p := ⟨b, off + hi * 3 + 1, none⟩) hb).trans c1
        have x2 : wr.cell? ⟨b, off + hi * 3 + 2, none⟩ = some (.int .i64 l[hi].synced) := (hbw.cell (p := ⟨b, off + hi * 3 + 2, none⟩) hb).trans c2
        have hcm := cmpF_any l[hi] n wr
        have hz := cmpS_zero l[hi].name n
        have e1 : l[hi]! = l[hi] := getElem!_pos l _ hn
        rw [e1] at hf
        have hf2 : ans = (cmpS l[hi].name n == 0) := by
          rw [hf]
          simp only [hn, decide_true, Bool.true_and]
          by_cases h : l[hi].name = n
          · have := hz.2 h
            rw [h] at this
            simp [h, this]
          · have : ¬ cmpS l[hi].name n = 0 := fun e => h (hz.1 e)
            simp [h, this]
        have HF2 := hide hf2
        clear hf hf2 hz e1 c0 c1 c2 HF
        generalize cmpS l[hi].name n = c at *
        generalize l[hi] = f at *
        go_wp2_with fail
        refine hcm.mono ?_
        rintro e w1 ⟨rfl, b1⟩
        go_wp2
        go_ret2
        exact ⟨by rw [unhide HF2]; rfl, belows hbw b1⟩
      · have HF2 := hide (show ans = false by rw [hf]; simp [hn])
        clear hf HF
        go_wp2
        go_ret2
        exact ⟨by rw [unhide HF2]; rfl, hbw⟩

set_option maxHeartbeats 2000000 in
set_option maxRecDepth 100000 in
theorem search_none (a : Option Addr) (cap : Nat) (n : ByteArray) (w : World) :
    Calls Tryd.prog 43 #[.slice a 0 cap, .string n, .func (.func 44) #[] #[]] w fun e w' => e = .returned (.tuple #[.int .i64 0, .bool false]) ∧ Below w.heap.size w w' := by
  go_enter Tryd.func43, Tryd.ntmps43
  go_wp2
  go_loopw [9, 10, 11] (fun x y z wr => x = .int .i64 0 ∧ y = .int .i64 0 ∧ Below w.heap.size w wr) (fun _ _ _ _ => 0)
  case atStart => exact ⟨rfl, rfl, Below.refl _ _⟩
  case round =>
    obtain ⟨rfl, rfl, hbw⟩ := hrel
    go_wp2
    go_ret2
    exact ⟨rfl, hbw⟩

theorem search_any (v : Value) (l : List File) (n : ByteArray) (w : World) (hri : Rise l) (h10 : l.length ≤ 1024) (h : RowF w v l) :
    Calls Tryd.prog 43 #[v, .string n, .func (.func 44) #[] #[]] w fun e w' => e = .returned (.tuple #[.int .i64 (lb l n : Nat), .bool (has l n)]) ∧ Below w.heap.size w w' := by
  obtain ⟨a, cap, rfl, _, _, hc⟩ := h
  rcases hc with rfl | ⟨b, off, rfl, hb, hc⟩
  · exact search_none a cap n w
  · exact search_some b off cap l n w hri h10 hb hc

set_option maxHeartbeats 400000 in
theorem find_any (d : Fs) (v : Value) (n : ByteArray) (w : World) (hri : Rise d.files) (h10 : d.files.length ≤ 1024) (h : RowF w v d.files) :
    Calls Tryd.prog 22 #[fsV d v, .string n] w fun e w' => e = .returned (.tuple #[.int .i64 (lb d.files n : Nat), .bool (has d.files n)]) ∧ Below w.heap.size w w' := by
  obtain ⟨room, l, fuse, fault, down⟩ := d
  have HS := hide (fun (w : World) (h : RowF w v l) => search_any v l n w hri h10 h)
  have HR := hide (h.below ((Below.refl _ w).alloc (Nat.le_refl _) (Obj.cells #[.int .i64 room, v, .int .i64 fuse, .int .i64 fault, .bool down] 65)))
  obtain ⟨a, cap, rfl, h63, hff, hc⟩ := h
  simp only [fsV] at *
  clear hc hff hri
  generalize has l n = ans at *
  generalize lb l n = at_ at *
  go_enter Tryd.func22, Tryd.ntmps22
  go_wp2_with fail
  refine ((unhide HS) _ (unhide HR)).mono ?_
  rintro e w1 ⟨rfl, b1⟩
  go_wp2
  go_ret2
  exact ⟨rfl, below_alloc' b1⟩

end Go.Proofs.YtpfmhlldkikbjaaDoor
