/-
  What slices.Delete does to a file system's files, over this seat's program.
-/
import Derived.Test.YtmfkhbofmaonkaaDlf
set_option linter.unusedVariables false
namespace Go.Proofs.Ytmfkhbofmaonkaa
open Go.RowKit Go.Proofs.Dsk

theorem blk_ne {w : World} {p g : Nat} {t e : TypeId} {cs cur : Array Value} {fr : Nat × Nat} (h : Blk w p t cs) (hg : w.heap[g]? = some (.cells cur e fr)) (hte : t ≠ e) : p ≠ g := by
  intro h'
  subst h'
  unfold Blk at h
  rw [h] at hg
  simp only [Option.some.injEq, Obj.cells.injEq] at hg
  exact hte hg.2.1

theorem blk_grown {w W : World} {p B : Nat} {t : TypeId} {cs : Array Value} (h : Blk w p t cs) (hg : w.grownBy W (some B)) (hne : p ≠ B) : Blk W p t cs := by
  unfold Blk at *
  rw [hg.block p (Array.getElem?_eq_some_iff.1 h).1 (fun e => hne (by simpa using e))]; exact h

theorem own_drew {w : World} {C : Nat} {e : TypeId} {size n : Nat} {v : Value} {xs : List Value} (h : w.ownsRow C e size v n xs) : w.drew.ownsRow C e size v n xs := h
theorem blk_drew {w : World} {p : Nat} {t : TypeId} {cs : Array Value} (h : Blk w p t cs) : Blk w.drew p t cs := h

theorem fit_sub {d : Fs} {l : List File} (h : FitAll d) (hs : ∀ f ∈ l, f ∈ d.files) (hl : l.length ≤ 9223372036854775807) : FitAll { d with files := l } := ⟨h.1, fun f hf => h.2.1 f (hs f hf), hl⟩

theorem flatF_erase (l : List File) (i : Nat) : flatF (l.eraseIdx i) = (flatF l).take (i * 3) ++ (flatF l).drop ((i + 1) * 3) := by
  rw [List.eraseIdx_eq_take_drop_succ, flatF_append, flatF_take, flatF_drop]

/-- slices.Delete takes one file out of a row of its own. -/
theorem deleteF_own (C g cap i j : Nat) (l : List File) (w : World) (hown : w.ownsRow C 56 3 (.slice (some ⟨g, 0, none⟩) l.length cap) l.length (flatF l)) (hij : j = i + 1) (hi : i < l.length) :
    Calls Try.prog 48 #[.slice (some ⟨g, 0, none⟩) l.length cap, .int .i64 i, .int .i64 j] w fun e w' => e = .returned (.slice (some ⟨g, 0, none⟩) (l.eraseIdx i).length cap) ∧ w'.ownsRow C 56 3 (.slice (some ⟨g, 0, none⟩) (l.eraseIdx i).length cap) (l.eraseIdx i).length (flatF (l.eraseIdx i)) ∧ w.grownBy w' (some g) := by
  rcases hown.2 with ⟨h0, _⟩ | ⟨g', cap', cur, hv, hb, hg, hnc, hcm, hcs, htake⟩
  · simp at h0
  · simp only [Value.slice.injEq, Option.some.injEq, Addr.mk.injEq, and_true, true_and] at hv
    obtain ⟨rfl, rfl⟩ := hv
    have hm : cap ≤ 9223372036854775807 := by have := hcm; unfold maxLen at this; omega
    have hel : (l.eraseIdx i).length = i + (l.length - j) := by rw [List.length_eraseIdx_of_lt hi]; omega
    refine (deleteF_at g cap i j l.length cur w hg hcs hnc hm hij (by omega) (by rw [htake]; exact flatF_one l)).mono ?_
    rintro e w' ⟨rfl, cur', hg', hsz, hget, hgr⟩
    rw [hel]
    refine ⟨rfl, ⟨by rw [flatF_length, hel], Or.inr ⟨g, cap, cur', rfl, hb, hg', by omega, hcm, by rw [hsz, hcs], ?_⟩⟩, hgr⟩
    rw [flatF_erase]
    apply List.ext_getElem?
    intro t
    have hfl := flatF_length l
    by_cases ht : t < (i + (l.length - j)) * 3
    · rw [List.getElem?_take, if_pos ht, Array.getElem?_toList, hget t ht, List.getElem?_append]
      by_cases hti : t < i * 3
      · rw [if_pos hti, if_pos (by rw [List.length_take]; omega), ← htake, List.take_take, List.getElem?_take, if_pos (by omega), Array.getElem?_toList]
      · rw [if_neg hti, if_neg (by rw [List.length_take]; omega), List.length_take, List.getElem?_drop, ← htake, List.getElem?_take, if_pos (by rw [htake, hfl]; omega), Array.getElem?_toList]
        congr 1
        rw [htake, hfl]
        omega
    · rw [List.getElem?_eq_none (by rw [List.length_take]; omega), List.getElem?_eq_none (by rw [List.length_append, List.length_take, List.length_drop, hfl]; omega)]

end Go.Proofs.Ytmfkhbofmaonkaa
