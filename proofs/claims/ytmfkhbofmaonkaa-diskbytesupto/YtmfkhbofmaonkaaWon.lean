/-
  What disk.workOn does, over this seat's program: a copy is worked on by a function that is told where the file is.
-/
import Derived.Test.YtmfkhbofmaonkaaWrk
set_option linter.unusedVariables false
namespace Go.Proofs.Ytmfkhbofmaonkaa
open Go.RowKit Go.Proofs.Dsk

set_option maxHeartbeats 2000000 in
set_option maxRecDepth 100000 in
theorem workOn1_any (d : Fs) (n : ByteArray) (g : Nat) (bs : Array Value) (F : Nat → Fs → Fs × Nat) (W : World) (C B p q : Nat) (hgood : Good d) (hS : Sys W C B d) (hp : Blk W p 9 #[.string n]) (hq : Blk W q 65 #[.func (.func g) #[] bs])
    (eg : ∀ args w, (callFunc g args).run Try.prog w = .ok (.enter g args) w)
    (hdo : has d.files n = true → ∀ W', Below W.heap.size W W' → Sys W' C B d → Calls Try.prog g (#[.pointer (some ⟨B, 0, none⟩), .int .i64 (lb d.files n : Nat)] ++ bs) W' fun e W'' => e = .returned (.int .i64 (F (lb d.files n) d).2) ∧ Sys W'' C B (F (lb d.files n) d).1 ∧ Below C W' W'') :
    Calls Try.prog 68 #[.pointer (some ⟨B, 0, none⟩), .pointer (some ⟨p, 0, none⟩), .pointer (some ⟨q, 0, none⟩)] W fun e W' => e = .returned (.int .i64 (onR n F d).2) ∧ Sys W' C B (onR n F d).1 ∧ Below C W W' := by
  have hR := right_parts hgood.1
  have HS := hide hS
  obtain ⟨hCB, hfit, v, k0, hown, hne⟩ := hS
  have hrow : RowF W v d.files := rowF_of_own hown hfit.2.2 hfit.2.1
  have hlt := k0.lt
  have HF := hide (fun (X : World) (hX : RowF X v d.files) => find_any d v n X hR.2.2.2 hR.1.2.2.1 hX)
  have HROW := hide hrow
  have cp := hp.cell 0
  have cq := hq.cell 0
  have c0 := k0.cell 0
  have c1 := k0.cell 1
  have c2 := k0.cell 2
  have c3 := k0.cell 3
  have c4 := k0.cell 4
  obtain ⟨a, cap, rfl⟩ := own_form hown
  simp only [fsV, sysCells, List.getElem?_toArray, List.getElem?_cons_succ, List.getElem?_cons_zero] at c0 c1 c2 c3 c4 cp cq HF
  have HQ := hide hq
  have HDO := hide hdo
  clear hdo hown hne hfit k0 hrow hp hq hR hgood
  cases hh : has d.files n with
  | true =>
    have ho : onR n F d = F (lb d.files n) d := by unfold onR; rw [if_pos hh]
    rw [ho]
    have HD := hide (unhide HDO hh)
    rw [hh] at HF
    clear HDO hh ho
    generalize F (lb d.files n) d = fd at HD ⊢
    obtain ⟨d4, n4⟩ := fd
    simp only at HD ⊢
    generalize lb d.files n = at_ at *
    go_enter Try.func68, Try.ntmps68
    go_wp2
    go_region_with (first | (go_at_call 33; refine (unhide HF W.drew (unhide HROW)).mono ?_; rintro e w3 ⟨rfl, b3⟩))
    all_goals (
      have b5 : Below W.heap.size W w3 := ⟨b3.os, b3.tape, b3.output, b3.size, b3.block⟩
      have cq3 := ((unhide HQ).below b5).cell 0
      simp only [List.getElem?_toArray, List.getElem?_cons_zero] at cq3
      have H3 := hide (unhide HD w3 b5 ((unhide HS).below b5))
      have B5 := hide (b5.mono (show C ≤ W.heap.size by omega))
      clear b3 b5
      go_wp2_with fail
      refine (unhide H3).mono ?_
      rintro e w4 ⟨rfl, s4, b4⟩
      have S4 := hide s4
      have B4 := hide ((unhide B5).trans b4)
      clear s4 b4
      go_wp2
      go_ret
      exact ⟨rfl, unhide S4, unhide B4⟩)
  | false =>
    have ho : onR n F d = (d, 3) := by unfold onR; rw [if_neg (by simp [hh])]
    rw [ho]
    rw [hh] at HF
    clear HDO hh ho
    generalize lb d.files n = at_ at *
    go_enter Try.func68, Try.ntmps68
    go_wp2
    go_region_with (first | (go_at_call 33; refine (unhide HF W.drew (unhide HROW)).mono ?_; rintro e w3 ⟨rfl, b3⟩))
    all_goals (
      have b5 : Below W.heap.size W w3 := ⟨b3.os, b3.tape, b3.output, b3.size, b3.block⟩
      have S5 := hide ((unhide HS).below b5)
      have B5 := hide (b5.mono (show C ≤ W.heap.size by omega))
      clear b3 b5
      go_wp2
      go_ret
      exact ⟨rfl, unhide S5, unhide B5⟩)

end Go.Proofs.Ytmfkhbofmaonkaa
