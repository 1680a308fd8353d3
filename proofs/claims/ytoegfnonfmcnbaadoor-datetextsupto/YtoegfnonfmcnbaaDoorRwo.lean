/-
  What the document's words of layer 10 does, over this seat's program.
-/
import Derived.Test.YtoegfnonfmcnbaaDoorRwm
import Derived.Test.YtoegfnonfmcnbaaDoorRwd
import Derived.Laws.AppendOwn
import Derived.OwnWalk
set_option linter.unusedVariables false
namespace Go.Proofs.YtoegfnonfmcnbaaDoor
open Go.RowKit Go.Proofs.Dcl

theorem wrdInfo : (Tryd.prog.info? 9).map (fun i => (i.zero, i.size, i.bytes)) = some (some (.string ByteArray.empty), 1, 16) := by kernel_rfl
/-- Words as cells of a row. -/
def cellsW (l : List (List UInt8)) : List Value := l.map fun x => Value.string (bts x)
theorem cellsW_snoc (l : List (List UInt8)) (x : List UInt8) : cellsW l ++ [Value.string (bts x)] = cellsW (l ++ [x]) := by simp [cellsW]
theorem one_wrd (w : World) (v : Value) (t : TypeId) : ∀ j u, [v][j]? = some u → (w.alloc (.cells #[v] t)).cell? (Addr.add ⟨w.heap.size, 0, none⟩ j) = some u := by
  intro j u hj
  match j, hj with
  | 0, hj => simp at hj; subst hj; simp [Addr.add]
theorem own_upW {w wr w2 : World} {o : Obj} {B size : Nat} {e : TypeId} {v : Value} {n : Nat} {xs : List Value} (hown : wr.ownsRow B e size v n xs) (hgrow : (wr.alloc o).grownBy w2 v.ownBlock) (hbw : Below B w wr) (hB : B ≤ wr.heap.size) : Below B w w2 :=
  (hbw.alloc hB _).grown hgrow (by simp; omega) (fun k hk => by
    rcases hown.2 with ⟨rfl, _⟩ | ⟨g, cap, cur, rfl, hg, _⟩
    · simp [Value.ownBlock] at hk
    · simp [Value.ownBlock] at hk; omega)
/-- The value v is a slice of words. -/
def RowW (w : World) (v : Value) (l : List (List UInt8)) : Prop :=
  ∃ (a : Option Addr) (cap : Nat), v = .slice a l.length cap ∧ (l = [] ∨ ∃ b, a = some ⟨b, 0, none⟩ ∧ b < w.heap.size ∧ ∀ j (h : j < l.length), w.cell? ⟨b, j, none⟩ = some (.string (bts l[j])))
theorem rowW_of {w : World} {B : Nat} {e : TypeId} {v : Value} {l : List (List UInt8)} (h : w.ownsRow B e 1 v l.length (cellsW l)) : RowW w v l := by
  rcases h.2 with ⟨hv, h0⟩ | ⟨g, cap, cur, hv, hg, hh, hc, hm, hs, ht⟩
  · have : l = [] := List.eq_nil_of_length_eq_zero h0
    subst this
    exact ⟨none, 0, hv, Or.inl rfl⟩
  · refine ⟨_, cap, hv, Or.inr ⟨g, rfl, (Array.getElem?_eq_some_iff.1 hh).1, fun j hj => ?_⟩⟩
    have h1 : (cur.toList.take (l.length * 1))[j]? = (cellsW l)[j]? := by rw [ht]
    have h2 : (cellsW l)[j]? = some (.string (bts l[j])) := by simp [cellsW, List.getElem?_eq_getElem hj]
    rw [h2, List.getElem?_take, if_pos (by omega)] at h1
    simp only [World.cell?, hh]
    simpa using h1
theorem ne_empty {l : List UInt8} (h : l ≠ []) : (bts l).toList.isEmpty = false := by
  rw [ByteArray.toList_eq, toList_bts]
  cases l with
  | nil => exact absurd rfl h
  | cons a r => rfl
theorem is_empty : (bts []).toList.isEmpty = true := by rw [ByteArray.toList_eq, toList_bts]; rfl
theorem fold_take (s : ByteArray) (k : Nat) (h : k < s.size) : (s.data.toList.take (k + 1)).foldl wrdS ([], []) = wrdS ((s.data.toList.take k).foldl wrdS ([], [])) s[k] := by
  rw [take_byte s k h, List.foldl_append]
  rfl
theorem blB_iff (c : UInt8) : blB c = true ↔ (c.toNat = 32 ∨ c.toNat = 9) := by
  have h : ∀ n : Fin 256, blB (UInt8.ofNat n.val) = true ↔ (n.val = 32 ∨ n.val = 9) := by decide +kernel
  have := h ⟨c.toNat, c.toNat_lt⟩
  simpa using this

set_option maxHeartbeats 2000000 in
set_option maxRecDepth 100000 in
theorem refWords_any (s : ByteArray) (w : World) (hs : s.size ≤ 4294967280) :
    Calls Tryd.prog 32 #[.string s] w fun e w' => ∃ v, e = .returned v ∧ RowW w' v (wordsL s.data.toList) ∧ Below w.heap.size w w' := by
  obtain ⟨i0, hi, hz0, hz1, hz2⟩ := info_parts wrdInfo
  go_enter Tryd.func32, Tryd.ntmps32
  go_wp2
  go_loopw [3, 4, 5] (fun o x z wr => ∃ (k : Nat) (acc : List (List UInt8)) (now : List UInt8), z = .int .i64 k ∧ k ≤ s.size ∧ x = .string (bts now) ∧ acc.length ≤ k ∧ now.length ≤ k ∧ Hid ((s.data.toList.take k).foldl wrdS ([], []) = (acc, now)) ∧ Hid (wr.ownsRow w.heap.size 9 1 o acc.length (cellsW acc)) ∧ Hid (Below w.heap.size w wr)) (fun _ _ z _ => s.size - (intOf z).toNat)
  case atStart => exact ⟨0, [], [], rfl, Nat.zero_le _, rfl, Nat.le_refl _, Nat.le_refl _, hide rfl, hide ⟨rfl, Or.inl ⟨rfl, rfl⟩⟩, hide (Below.refl _ _)⟩
  case round =>
    obtain ⟨k, acc, now, rfl, hk, rfl, ha, hn, HF, HO, HB⟩ := hrel
    by_cases hlt : k < s.size
    · have hlt' : (k : Int) < (s.size : Int) := by omega
      have hft := fold_take s k hlt
      rw [unhide HF] at hft
      by_cases hb : blB s[k] = true
      · have hb' := (blB_iff _).1 hb
        have hz := (unhide HB).size
        by_cases hw : now = []
        · have HFN : Hid ((s.data.toList.take (k + 1)).foldl wrdS ([], []) = (acc, [])) := hide (by rw [hft]; unfold wrdS; simp [hb, hw])
          subst hw
          have he := is_empty
          clear hft HF hb
          rcases hb' with h | h
          · have q1 : ((s[k].toNat : Int) != 32) = false := by rw [h]; rfl
            clear h
            go_wp2
            exact ⟨⟨k + 1, acc, [], by go_num, by omega, by rfl, by omega, by simp, HFN, HO, HB⟩, by simp [intOf]; omega⟩
          · have q1 : ((s[k].toNat : Int) != 32) = true := by rw [h]; rfl
            have q2 : ((s[k].toNat : Int) != 9) = false := by rw [h]; rfl
            clear h
            go_wp2
            exact ⟨⟨k + 1, acc, [], by go_num, by omega, by rfl, by omega, by simp, HFN, HO, HB⟩, by simp [intOf]; omega⟩
        · have HFN : Hid ((s.data.toList.take (k + 1)).foldl wrdS ([], []) = (acc ++ [now], [])) := hide (by rw [hft]; unfold wrdS; simp [hb, hw])
          have he := ne_empty hw
          have hown := unhide HO
          clear hft HF hb hw
          rcases hb' with h | h
          · have q1 : ((s[k].toNat : Int) != 32) = false := by rw [h]; rfl
            clear h
            go_wp2_with (at_builtin; refine wpList_append_own _ rfl _ _ 57 rfl w.heap.size 9 i0 (.string ByteArray.empty) 1 16 Tryd.underlying57 hi hz0 hz1 hz2 rfl (by decide) _ _ _ rfl (hown.alloc _) ⟨wr.heap.size, 0, none⟩ 1 1 [.string (bts now)] rfl rfl (one_wrd _ _ _) (by intro u hu; simp at hu; subst hu; rfl) (by unfold maxLen; omega) (by omega) (by simp; omega) ?_)
            intro v' w4 hown4 hgrow _
            rw [cellsW_snoc] at hown4
            have HB4 := hide (own_upW hown hgrow (unhide HB) hz)
            have HO4 := hide hown4
            clear hgrow hown4 hown
            go_wp2
            exact ⟨⟨k + 1, acc ++ [now], [], by go_num, by omega, by rfl, by simp; omega, by simp, HFN, by simpa using HO4, HB4⟩, by simp [intOf]; omega⟩
          · have q1 : ((s[k].toNat : Int) != 32) = true := by rw [h]; rfl
            have q2 : ((s[k].toNat : Int) != 9) = false := by rw [h]; rfl
            clear h
            go_wp2_with (at_builtin; refine wpList_append_own _ rfl _ _ 57 rfl w.heap.size 9 i0 (.string ByteArray.empty) 1 16 Tryd.underlying57 hi hz0 hz1 hz2 rfl (by decide) _ _ _ rfl (hown.alloc _) ⟨wr.heap.size, 0, none⟩ 1 1 [.string (bts now)] rfl rfl (one_wrd _ _ _) (by intro u hu; simp at hu; subst hu; rfl) (by unfold maxLen; omega) (by omega) (by simp; omega) ?_)
            intro v' w4 hown4 hgrow _
            rw [cellsW_snoc] at hown4
            have HB4 := hide (own_upW hown hgrow (unhide HB) hz)
            have HO4 := hide hown4
            clear hgrow hown4 hown
            go_wp2
            exact ⟨⟨k + 1, acc ++ [now], [], by go_num, by omega, by rfl, by simp; omega, by simp, HFN, by simpa using HO4, HB4⟩, by simp [intOf]; omega⟩
      · have hb' : ¬ (s[k].toNat = 32 ∨ s[k].toNat = 9) := fun h => hb ((blB_iff _).2 h)
        have q1 : ((s[k].toNat : Int) != 32) = true := by rw [bne_iff_ne]; omega
        have q2 : ((s[k].toNat : Int) != 9) = true := by rw [bne_iff_ne]; omega
        have HFN : Hid ((s.data.toList.take (k + 1)).foldl wrdS ([], []) = (acc, now ++ [s[k]])) := hide (by rw [hft]; unfold wrdS; simp [hb])
        have hsl : ∀ W : World, (Instr.slice 9 (.string s) (some (.int .i64 (k : Int))) (some (.int .i64 ((k : Int) + 1))) none).run Tryd.prog W = .ok (.string (bts [s[k]])) W := by
          intro W
          have := slice_km s k 1 (by omega) W
          have he : s.extract k (k + 1) = bts [s[k]] := by
            apply ext_list
            rw [toList_part, drop_byte s k hlt, toList_bts]
            simp
          rw [he] at this
          exact this
        have HE := hide (bts_app now [s[k]])
        have hz1 := size_bts [s[k]]
        have hz2 := size_bts now
        have hz3 : (bts now).size + (bts [s[k]]).size ≤ 4294967281 := by rw [hz1, hz2]; simp; omega
        clear hft HF hb hb'
        generalize bts [s[k]] = y at hsl HE hz1 hz3
        generalize hx : bts now = x at HE hz2 hz3 ⊢
        clear hx hz1 hz2
        go_wp2
        exact ⟨⟨k + 1, acc, now ++ [s[k]], by go_num, by omega, by rw [← unhide HE], by omega, by simp; omega, HFN, HO, HB⟩, by simp [intOf]; omega⟩
    · have hlt' : ¬ (k : Int) < (s.size : Int) := by omega
      have hf := unhide HF
      rw [List.take_of_length_le (by rw [sizeL]; omega)] at hf
      have hz := (unhide HB).size
      by_cases hw : now = []
      · have HR : Hid (wordsL s.data.toList = acc) := hide (by unfold wordsL; rw [hf]; unfold wrdE; simp [hw])
        subst hw
        have he := is_empty
        clear hf HF
        go_wp2
        go_ret
        exact ⟨_, rfl, by rw [unhide HR]; exact rowW_of (unhide HO), unhide HB⟩
      · have HR : Hid (wordsL s.data.toList = acc ++ [now]) := hide (by unfold wordsL; rw [hf]; unfold wrdE; simp [hw])
        have he := ne_empty hw
        have hown := unhide HO
        clear hf HF hw
        go_wp2_with (at_builtin; refine wpList_append_own _ rfl _ _ 57 rfl w.heap.size 9 i0 (.string ByteArray.empty) 1 16 Tryd.underlying57 hi hz0 hz1 hz2 rfl (by decide) _ _ _ rfl (hown.alloc _) ⟨wr.heap.size, 0, none⟩ 1 1 [.string (bts now)] rfl rfl (one_wrd _ _ _) (by intro u hu; simp at hu; subst hu; rfl) (by unfold maxLen; omega) (by omega) (by simp; omega) ?_)
        intro v' w4 hown4 hgrow _
        rw [cellsW_snoc] at hown4
        have HB4 := hide (own_upW hown hgrow (unhide HB) hz)
        have HO4 : Hid (w4.ownsRow w.heap.size 9 1 v' (acc ++ [now]).length (cellsW (acc ++ [now]))) := hide (by simpa using hown4)
        clear hgrow hown4 hown
        go_wp2
        go_ret
        exact ⟨_, rfl, by rw [unhide HR]; exact rowW_of (unhide HO4), unhide HB4⟩
end Go.Proofs.YtoegfnonfmcnbaaDoor
