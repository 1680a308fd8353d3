/-
  What dict.Find and dict.Keys do, over this seat's program.
-/
import Derived.Test.YtfjjigcghhohkaaDia
set_option linter.unusedVariables false
namespace Go.Proofs.Ytfjjigcghhohkaa
open Go.RowKit Go.Proofs.Num Go.Proofs.Dct

/-- A key's data, or none. -/
def seekE (ky : Nat) (l : List EntL) : List UInt8 × Nat := match l.find? (fun e => decide (e.1 = ky)) with
  | none => ([], 3)
  | some e => (e.2, 0)
theorem seek_nil (ky : Nat) : seekE ky [] = ([], 3) := rfl
theorem seek_hit {ky : Nat} {e : EntL} {r : List EntL} (h : e.1 = ky) : seekE ky (e :: r) = (e.2, 0) := by
  unfold seekE
  rw [List.find?_cons_of_pos (by simpa using h)]
theorem seek_miss {ky : Nat} {e : EntL} {r : List EntL} (h : e.1 ≠ ky) : seekE ky (e :: r) = seekE ky r := by
  unfold seekE
  rw [List.find?_cons_of_neg (by simpa using h)]
def findR (s : List UInt8) (ky : Nat) : List UInt8 × Nat := match readD s with
  | .error e => ([], e)
  | .ok (l, _) => seekE ky l

set_option maxHeartbeats 2000000 in
set_option maxRecDepth 100000 in
theorem dfind_any (s : ByteArray) (key : Nat) (w : World) (hs : s.size ≤ 140737488355328) (hky : key ≤ 18446744073709551615) :
    Calls Try.prog 15 #[.string s, .int .u64 (key : Int)] w fun e w' => e = .returned (.tuple #[.string (bts (findR s.data.toList key).1), .int .i64 ((findR s.data.toList key).2 : Int)]) ∧ Below w.heap.size w w' := by
  have HR0 := hide (open_row s w hs)
  go_enter Try.func15, Try.ntmps15
  go_wp2_with fail
  refine (unhide HR0).mono ?_
  rintro e w1 (⟨c, hE, hc, rfl, hb1⟩ | ⟨v, l, q, hE, rfl, hrow, hb1⟩)
  · have hne : ((c : Int) == 0) = false := by simp; omega
    have hfin : findR s.data.toList key = ([], c) := by unfold findR; rw [hE]
    have HF := hide hfin
    clear hE hc hfin HR0
    go_wp2
    go_ret2
    exact ⟨by rw [unhide HF]; rfl, hb1⟩
  · obtain ⟨a1, a2, a3⟩ := fit_read hs hE
    have hfin : findR s.data.toList key = seekE key l := by unfold findR; rw [hE]
    have HFT := hide a1
    have HF := hide hfin
    have HB1 := hide hb1
    have HR := hide hrow
    obtain ⟨ad, cap, hv, hrest⟩ := hrow
    subst hv
    rw [List.length_map] at *
    obtain ⟨T, hT⟩ : ∃ T, T = l.length := ⟨_, rfl⟩
    rw [← hT] at HR a2 ⊢
    have HTL := hide hT
    clear hE a1 hb1 hrest hT HR0 hfin
    go_wp2
    go_loopw [10, 22] (fun xe z wr => ∃ k : Nat, z = .int .i64 k ∧ k ≤ T ∧ Hid (seekE key l = seekE key (l.drop k)) ∧ Hid (Below w1.heap.size w1 wr)) (fun _ z _ => T - (intOf z).toNat)
    case atStart => exact ⟨0, rfl, Nat.zero_le _, hide rfl, hide (Below.refl _ _)⟩
    case round =>
      obtain ⟨k, rfl, hk, HS, HB⟩ := hrel
      by_cases hlt : k < T
      · have hlt1 : (k : Int) < (T : Int) := by omega
        have hkl : k < l.length := by have := unhide HTL; omega
        obtain ⟨b, off, cap', hv', hblt, hcell⟩ := RowG.at cells3_len ((unhide HR).below (unhide HB)) (j := k) (by simpa using hkl)
        injection hv' with e1 e2 e3
        subst e1
        have c0 := hcell 0 (by omega)
        have c1 := hcell 1 (by omega)
        have c2 := hcell 2 (by omega)
        have hfit : (l[k]).1 ≤ 18446744073709551615 ∧ (bts (l[k]).2).size ≤ 140737488355328 := unhide HFT l[k] (List.getElem_mem hkl)
        have hS := unhide HS
        rw [List.drop_eq_getElem_cons hkl] at hS
        simp only [List.getElem_map, cells3, ent1, List.getElem?_cons_succ, List.getElem?_cons_zero, Nat.add_zero] at c0 c1 c2
        have hzr := (unhide HB).size
        by_cases hkey : (l[k]).1 = key
        · rw [seek_hit hkey] at hS
          rw [hkey] at c0
          have HFF := hide ((unhide HF).trans hS)
          generalize (l[k]).2.length = nn at c2
          generalize hD : bts (l[k]).2 = D at c1 hfit
          have HD := hide hD
          have HCL := hide (fun W => clone_any D W (by have := hfit.2; omega))
          have HBA := hide (belows' (unhide HB1) ((unhide HB).alloc hzr (.cells #[.int .u64 (key : Int), .string D, .int .u64 (nn : Int)] 82)))
          clear hcell hfit e2 e3 hS HS hD hkey
          go_wp2_with fail
          refine (unhide HCL _).mono ?_
          rintro e w3 ⟨rfl, hb3⟩
          go_wp2
          go_ret2
          exact ⟨by rw [unhide HFF, ← unhide HD]; rfl, belows' (unhide HBA) hb3⟩
        · rw [seek_miss hkey] at hS
          have HSS := hide hS
          have hkb : (((l[k]).1 : Int) == (key : Int)) = false := by simp; omega
          have hkb2 := hfit.1
          generalize (l[k]).2.length = nn at c2
          generalize bts (l[k]).2 = D at c1
          generalize (l[k]).1 = ky at c0 hkb hkb2
          have HBA := hide ((unhide HB).alloc hzr (.cells #[.int .u64 (ky : Int), .string D, .int .u64 (nn : Int)] 82))
          clear hcell hfit e2 e3 hS HS hkey
          go_wp2
          exact ⟨⟨k + 1, by go_num, by omega, HSS, HBA⟩, by simp [intOf]; omega⟩
      · have hlt1 : ¬ (k : Int) < (T : Int) := by omega
        have hS := unhide HS
        rw [List.drop_of_length_le (by have := unhide HTL; omega), seek_nil] at hS
        have HFF := hide ((unhide HF).trans hS)
        have HBB := hide (belows' (unhide HB1) (unhide HB))
        clear hS HS HB
        go_wp2
        go_ret2
        exact ⟨by rw [unhide HFF]; rfl, unhide HBB⟩

def cellsU (n : Nat) : List Value := [.int .u64 (n : Int)]
theorem cellsU_len (n : Nat) : (cellsU n).length = 1 := rfl
abbrev RowU := RowG cellsU (fun n => n ≤ 18446744073709551615)
theorem flatU_next (l : List EntL) (k : Nat) (h : k < l.length) : flatG cellsU ((keysE l).take (k + 1)) = flatG cellsU ((keysE l).take k) ++ [.int .u64 ((l[k]).1 : Int)] := by
  rw [List.take_succ_eq_append_getElem (by simpa [keysE] using h), flatG_append, flatG_one]
  simp [cellsU, keysE]
def DKeys (s : ByteArray) (w' : World) (v : Value) (c : Nat) : Prop :=
  match readD s.data.toList with
  | .error e => v = .slice none 0 0 ∧ c = e
  | .ok (l, q) => RowU w' v (keysE l) ∧ c = 0
theorem dkeys_err {s : ByteArray} {e : Nat} (h : readD s.data.toList = .error e) (w' : World) : DKeys s w' (.slice none 0 0) e := by
  unfold DKeys; rw [h]; exact ⟨rfl, rfl⟩
theorem dkeys_ok {s : ByteArray} {l : List EntL} {q : Nat} (h : readD s.data.toList = .ok (l, q)) {w' : World} {v : Value} (hr : RowU w' v (keysE l)) : DKeys s w' v 0 := by
  unfold DKeys; rw [h]; exact ⟨hr, rfl⟩

end Go.Proofs.Ytfjjigcghhohkaa
