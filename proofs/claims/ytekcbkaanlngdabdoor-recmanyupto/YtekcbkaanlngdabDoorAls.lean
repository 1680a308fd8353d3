/-
  What rec.All does, over this seat's program: the records whose frames a text begins with, and how many bytes these have.
-/
import Derived.Test.YtekcbkaanlngdabDoorNxt
set_option linter.unusedVariables false
namespace Go.Proofs.YtekcbkaanlngdabDoor
open Go.RowKit Go.Proofs.Num Go.Proofs.Crc Go.Proofs.Frm

theorem strInfo : (Tryd.prog.info? 9).map (fun i => (i.zero, i.size, i.bytes)) = some (some (.string ByteArray.empty), 1, 16) := by kernel_rfl

/-- Texts as cells of a row. -/
def cellsS (l : List ByteArray) : List Value := l.map Value.string

theorem cellsS_snoc (l : List ByteArray) (x : ByteArray) : cellsS l ++ [Value.string x] = cellsS (l ++ [x]) := by simp [cellsS]

theorem rowS_of_own {w : World} {B : Nat} {e : TypeId} {v : Value} {l : List ByteArray} (h : w.ownsRow B e 1 v l.length (cellsS l)) (h6 : l.length ≤ 9223372036854775807) (hn : ∀ s ∈ l, s.size ≤ 9223372036854775807) : RowS w v l := by
  rcases h.2 with ⟨hv, h0⟩ | ⟨g, cap, cur, hv, hg, hh, hc, hm, hs, ht⟩
  · have : l = [] := List.eq_nil_of_length_eq_zero h0
    subst this
    exact ⟨none, 0, hv, by simp, by simp, Or.inl rfl⟩
  · refine ⟨_, cap, hv, h6, hn, Or.inr ⟨g, 0, rfl, (Array.getElem?_eq_some_iff.1 hh).1, fun j hj => ?_⟩⟩
    have h1 : (cur.toList.take (l.length * 1))[j]? = (cellsS l)[j]? := by rw [ht]
    have h2 : (cellsS l)[j]? = some (.string l[j]) := by simp [cellsS, List.getElem?_eq_getElem hj]
    rw [h2, List.getElem?_take, if_pos (by omega)] at h1
    simp only [World.cell?, hh, Nat.zero_add]
    simpa using h1

theorem own_below1 {w w' : World} {B : Nat} {e : TypeId} {v : Value} {n : Nat} {xs : List Value} (h : w.ownsRow B e 1 v n xs) (hb : Below w.heap.size w w') : w'.ownsRow B e 1 v n xs := by
  obtain ⟨h1, h2⟩ := h
  refine ⟨h1, ?_⟩
  rcases h2 with h2 | ⟨g, cap, cur, hv, hg, hh, r⟩
  · exact Or.inl h2
  · exact Or.inr ⟨g, cap, cur, hv, hg, by rw [hb.block g (Array.getElem?_eq_some_iff.1 hh).1]; exact hh, r⟩

theorem lists_snoc (l : List ByteArray) (x : ByteArray) : lists (l ++ [x]) = lists l ++ [x.data.toList] := by simp [lists]

theorem find_at (s : ByteArray) (a : Nat) (w : World) (ht : Tab w) (hs : s.size ≤ 281474976710656) :
    Calls Tryd.prog 27 #[.string (s.extract a s.size)] w fun e w' => e = .returned (.tuple #[.int .i64 (findT (s.data.toList.drop a)).1, .int .i64 (findT (s.data.toList.drop a)).2.1, .int .i64 (findT (s.data.toList.drop a)).2.2]) ∧ Below w.heap.size w w' := by
  have := find_any (s.extract a s.size) w ht (by rw [ByteArray.size_extract]; omega)
  rw [toList_from] at this
  exact this

set_option maxHeartbeats 1000000 in
set_option maxRecDepth 100000 in
theorem all_any (s : ByteArray) (w : World) (ht : Tab w) (hs : s.size ≤ 1099511627776) :
    Calls Tryd.prog 18 #[.string s] w fun e w' => ∃ v l, e = .returned (.tuple #[v, .int .i64 (allR s.data.toList).2]) ∧ RowS w' v l ∧ lists l = (allR s.data.toList).1 ∧ Below w.heap.size w w' := by
  obtain ⟨i0, hi, hz0, hz1, hz2⟩ := info_parts strInfo
  have HT := hide ht
  clear ht
  go_enter Tryd.func18, Tryd.ntmps18
  go_wp2
  go_loopw [4, 5, 6, 7, 8] (fun x z y1 y2 y3 wr => ∃ (a0 : Nat) (acc : List ByteArray), z = .int .i64 a0 ∧ a0 ≤ s.size ∧ 5 * acc.length ≤ a0 ∧ (∀ t ∈ acc, t.size ≤ 9223372036854775807) ∧ wr.ownsRow w.heap.size 9 1 x acc.length (cellsS acc) ∧ lists acc ++ (allR (s.data.toList.drop a0)).1 = (allR s.data.toList).1 ∧ a0 + (allR (s.data.toList.drop a0)).2 = (allR s.data.toList).2 ∧ Below w.heap.size w wr) (fun _ z _ _ _ _ => s.size - (intOf z).toNat)
  case atStart => exact ⟨0, [], rfl, Nat.zero_le _, by simp, by simp, ⟨rfl, Or.inl ⟨rfl, rfl⟩⟩, by simp [lists], by simp, Below.refl _ _⟩
  case round =>
    obtain ⟨a0, acc, rfl, ha0, hacc5, hall, hown, hl1, hl2, hbw⟩ := hrel
    have HL1 := hide hl1
    have HL2 := hide hl2
    have HALL := hide hall
    have hbs := hbw.size
    have HTW := hide ((unhide HT).below hbw)
    have hfind := find_at s a0 wr (unhide HTW) (by omega)
    have hdl : (s.data.toList.drop a0).length = s.size - a0 := by rw [List.length_drop, sizeL]
    clear hl1 hl2 hall
    cases hr : findR (s.data.toList.drop a0) with
    | error c =>
      rw [findT_err hr] at hfind
      have HF := hide hfind
      have hne : ((c : Int) == 0) = false := by have := (findR_err hr).1; simp; omega
      have hrow : RowS wr u4 acc := rowS_of_own hown (by omega) (unhide HALL)
      have hfin1 : lists acc = (allR s.data.toList).1 := by rw [← unhide HL1, allR_err hr]; simp
      have hfin2 : (allR s.data.toList).2 = a0 := by rw [← unhide HL2, allR_err hr]; rfl
      have H1 := hide hfin1
      have H2 := hide hfin2
      clear hr hfind hfin1 hfin2 hdl
      go_wp2_with fail
      refine (unhide HF).mono ?_
      rintro e w2 ⟨rfl, b2⟩
      go_wp2
      go_ret2
      exact ⟨_, acc, by rw [unhide H2]; rfl, hrow.below b2, unhide H1, belows hbw b2⟩
    | ok p =>
      obtain ⟨a, b⟩ := p
      obtain ⟨u1, u2, u3, _, u5, _⟩ := findR_ok hr
      rw [hdl] at u1
      rw [findT_ok hr] at hfind
      have HF := hide hfind
      have hdat : (s.extract (a0 + a) (a0 + b)).data.toList = ((s.data.toList.drop a0).take b).drop a := by
        rw [toList_part, List.drop_take, List.drop_drop]
        congr 1
        omega
      have hnx1 : lists (acc ++ [s.extract (a0 + a) (a0 + b)]) ++ (allR (s.data.toList.drop (a0 + b))).1 = (allR s.data.toList).1 := by
        rw [← unhide HL1, allR_ok hr, lists_snoc, hdat, List.drop_drop]
        simp
      have hnx2 : a0 + b + (allR (s.data.toList.drop (a0 + b))).2 = (allR s.data.toList).2 := by
        rw [← unhide HL2, allR_ok hr, List.drop_drop]
        simp only
        omega
      have hxs : (s.extract (a0 + a) (a0 + b)).size ≤ 281474976710656 := by rw [ByteArray.size_extract]; omega
      have HXS := hide hxs
      have H1 := hide hnx1
      have H2 := hide hnx2
      clear hr hfind hdat hnx1 hnx2 hdl hxs
      go_wp2_with fail
      refine (unhide HF).mono ?_
      rintro e w2 ⟨rfl, b2⟩
      have hown2 := own_below1 hown b2
      have v1 : (a0 : Int) + (a : Int) ≤ (a0 : Int) + (b : Int) := by omega
      have v2 : (a0 : Int) + (b : Int) ≤ (s.size : Int) := by omega
      have v3 : (0 : Int) ≤ (a0 : Int) + (a : Int) := by omega
      have v4 : a0 + b ≤ s.size := by omega
      have v5 : a0 + a ≤ a0 + b := by omega
      go_wp2_with fail
      refine (clone_any (s.extract (a0 + a) (a0 + b)) _ (unhide HXS)).mono ?_
      rintro e w3 ⟨rfl, b3⟩
      have hown3 := own_below1 hown2 b3
      have hz3 := b3.size
      have hz4 := b2.size
      have hxs63 : (s.extract (a0 + a) (a0 + b)).size ≤ 9223372036854775807 := Nat.le_trans (unhide HXS) (by omega)
      have HX63 := hide hxs63
      have hown : True := trivial
      clear hown2 hxs63
      generalize s.extract (a0 + a) (a0 + b) = t at H1 HX63
      go_wp2_with (at_builtin; refine wpList_append_own _ rfl _ _ 31 rfl w.heap.size 9 i0 (.string ByteArray.empty) 1 16 Tryd.underlying31 hi hz0 hz1 hz2 rfl (by decide) _ _ _ rfl (hown3.alloc _) ⟨w3.heap.size, 0, none⟩ 1 1 [.string t] rfl rfl ?c1 ?c2 ?c3 ?c4 ?c5 ?_)
      case c1 =>
        intro j u hj
        match j, hj with
        | 0, hj => simp at hj; subst hj; simp [Addr.add]
      case c2 => intro u hu; simp at hu; subst hu; rfl
      case c3 => unfold maxLen; omega
      case c4 => omega
      case c5 => simp; omega
      intro v' w4 hown' hgrow _
      have hb4 : Below w.heap.size w w4 := ((belows (belows hbw b2) b3).alloc (by omega) _).grown hgrow (by simp; omega) (fun k hk => by
        rcases hown3.2 with ⟨hv, _⟩ | ⟨g, cap, cur, hv, hg, _⟩
        · rw [hv] at hk; simp [Value.ownBlock] at hk
        · rw [hv] at hk; simp [Value.ownBlock] at hk; omega)
      rw [cellsS_snoc acc t] at hown'
      go_wp2
      exact ⟨⟨a0 + b, acc ++ [t], by go_num, by omega, by simp; omega, by
        intro x hx
        rcases List.mem_append.1 hx with hx | hx
        · exact unhide HALL x hx
        · simp at hx; subst hx; exact unhide HX63, by simpa using hown', unhide H1, unhide H2, hb4⟩, by simp [intOf]; omega⟩
end Go.Proofs.YtekcbkaanlngdabDoor
