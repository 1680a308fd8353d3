/-
  Mine: what missiveref02.Join and All answer: the document's own frames of some records, one behind the other, and the records that bytes begin with.
-/
import Derived.Test.YtekcbkaanlngdabDoorRnx
import Derived.Test.YtekcbkaanlngdabDoorAls
import Derived.Test.YtekcbkaanlngdabDoorTrn
import Derived.Test.YtekcbkaanlngdabDoorBlk
import Derived.Deep.Cut
set_option linter.unusedVariables false
namespace Go.Proofs.YtekcbkaanlngdabDoor
open Go.RowKit Go.Proofs.Num Go.Proofs.Crc Go.Proofs.Frm

set_option maxHeartbeats 1000000 in
set_option maxRecDepth 100000 in
theorem refJoin_some (b off cap : Nat) (l : List ByteArray) (w : World) (hn : l.length ≤ 1048576) (hs : ∀ s ∈ l, s.size ≤ 1048576) (hb : b < w.heap.size) (hc : ∀ j (h : j < l.length), w.cell? ⟨b, off + j, none⟩ = some (.string l[j])) :
    Calls Tryd.prog 17 #[.slice (some ⟨b, off, none⟩) l.length cap] w fun e w' => e = .returned (.tuple #[.string (bts (joinedL (lists l))), .int .i64 0]) ∧ Below w.heap.size w w' := by
  have HC := hide hc
  have HS := hide hs
  clear hc hs
  go_enter Tryd.func17, Tryd.ntmps17
  go_wp2
  go_loopw [4, 6, 7, 8, 11] (fun x y1 y2 y3 z wr => ∃ k : Nat, z = .int .i64 k ∧ x = .string (bts (framed (l.take k))) ∧ k ≤ l.length ∧ (framed (l.take k)).length ≤ 1048590 * k ∧ Below w.heap.size w wr) (fun _ _ _ _ z _ => l.length - (intOf z).toNat)
  case atStart => exact ⟨0, rfl, by simp [framed, bts], Nat.zero_le _, by simp [framed], Below.refl _ _⟩
  case round =>
    obtain ⟨k, rfl, rfl, hk, hfl, hbw⟩ := hrel
    by_cases hlt : k < l.length
    · have hcx : wr.cell? ⟨b, off + k, none⟩ = some (.string l[k]) := (hbw.cell (p := ⟨b, off + k, none⟩) hb).trans (unhide HC k hlt)
      have hsk := unhide HS _ (List.getElem_mem hlt)
      have hfr : frameR l[k].data.toList = (frameL l[k].data.toList, 0) := by unfold frameR; rw [sizeL, if_neg (by omega)]
      have hle := frame_le l[k].data.toList (by rw [sizeL]; exact hsk)
      have HFR := hide (fun w => refFrame_any l[k] w (by omega))
      rw [hfr] at HFR
      have hft := framed_take hlt
      have happ : bts (framed (l.take k)) ++ bts (frameL l[k].data.toList) = bts (framed (l.take (k + 1))) := by
        apply ext_list
        rw [toList_add, toList_bts, toList_bts, toList_bts, hft]
      have hl1 : (framed (l.take (k + 1))).length ≤ 1048590 * (k + 1) := by rw [hft, List.length_append]; omega
      have hz : (bts (framed (l.take k))).size + (bts (frameL l[k].data.toList)).size ≤ 9223372036854775807 := by rw [size_bts, size_bts]; omega
      have HL1 := hide hl1
      clear hfr hft hl1 hle hfl
      generalize bts (frameL l[k].data.toList) = f at *
      generalize l[k] = t at *
      generalize bts (framed (l.take k)) = o at *
      have HAP := hide happ
      clear happ
      go_wp2_with fail
      refine (unhide HFR _).mono ?_
      rintro e w2 ⟨rfl, b2⟩
      go_wp2
      exact ⟨⟨k + 1, by go_num, by rw [unhide HAP], by omega, unhide HL1, belows hbw b2⟩, by simp [intOf]; omega⟩
    · have hke : k = l.length := by omega
      have hfin : framed (l.take k) = joinedL (lists l) := by
        rw [hke, List.take_length]
        simp [lists, framed, joinedL, List.map_map, Function.comp_def]
      rw [hfin]
      clear hfin
      go_wp2
      go_ret2
      exact ⟨rfl, hbw⟩

set_option maxHeartbeats 1000000 in
set_option maxRecDepth 100000 in
theorem refJoin_nil (a : Option Addr) (cap : Nat) (w : World) :
    Calls Tryd.prog 17 #[.slice a 0 cap] w fun e w' => e = .returned (.tuple #[.string (bts []), .int .i64 0]) ∧ Below w.heap.size w w' := by
  go_enter Tryd.func17, Tryd.ntmps17
  go_wp2
  go_loopw [4, 6, 7, 8, 11] (fun x y1 y2 y3 z wr => z = .int .i64 0 ∧ x = .string { data := #[] } ∧ Below w.heap.size w wr) (fun _ _ _ _ _ _ => 0)
  case atStart => exact ⟨rfl, rfl, Below.refl _ _⟩
  case round =>
    obtain ⟨rfl, rfl, hbw⟩ := hrel
    go_wp2
    go_ret2
    exact ⟨rfl, hbw⟩

theorem refJoin_any (v : Value) (l : List ByteArray) (w : World) (hn : l.length ≤ 1048576) (hs : ∀ s ∈ l, s.size ≤ 1048576) (h : RowS w v l) :
    Calls Tryd.prog 17 #[v] w fun e w' => e = .returned (.tuple #[.string (bts (joinedL (lists l))), .int .i64 0]) ∧ Below w.heap.size w w' := by
  obtain ⟨a, cap, rfl, _, _, hc⟩ := h
  rcases hc with rfl | ⟨b, off, rfl, hb, hc⟩
  · exact refJoin_nil a cap w
  · exact refJoin_some b off cap l w hn hs hb hc

/-- A text's size. -/
def textLen : Value → Nat
  | .string s => s.size
  | _ => 0

set_option maxHeartbeats 1000000 in
set_option maxRecDepth 100000 in
theorem refAll_any (s : ByteArray) (w : World) (hs : s.size ≤ 1099511627776) :
    Calls Tryd.prog 19 #[.string s] w fun e w' => ∃ v l, e = .returned (.tuple #[v, .int .i64 (allR s.data.toList).2]) ∧ RowS w' v l ∧ lists l = (allR s.data.toList).1 ∧ Below w.heap.size w w' := by
  obtain ⟨i0, hi, hz0, hz1, hz2⟩ := info_parts strInfo
  go_enter Tryd.func19, Tryd.ntmps19
  go_wp2
  go_loopw [4, 5, 6, 7, 8] (fun x z y1 y2 y3 wr => ∃ (a0 : Nat) (R : ByteArray) (acc : List ByteArray), z = .string R ∧ a0 + R.size = s.size ∧ R.data.toList = s.data.toList.drop a0 ∧ 5 * acc.length ≤ a0 ∧ (∀ t ∈ acc, t.size ≤ 9223372036854775807) ∧ wr.ownsRow w.heap.size 9 1 x acc.length (cellsS acc) ∧ lists acc ++ (allR R.data.toList).1 = (allR s.data.toList).1 ∧ a0 + (allR R.data.toList).2 = (allR s.data.toList).2 ∧ Below w.heap.size w wr) (fun _ z _ _ _ _ => textLen z)
  case atStart => exact ⟨0, s, [], rfl, by simp, by simp, by simp, by simp, ⟨rfl, Or.inl ⟨rfl, rfl⟩⟩, by simp [lists], by simp, Below.refl _ _⟩
  case round =>
    obtain ⟨a0, R, acc, rfl, ha0, hR, hacc5, hall, hown, hl1, hl2, hbw⟩ := hrel
    have HR := hide hR
    have HL1 := hide hl1
    have HL2 := hide hl2
    have HALL := hide hall
    have hbs := hbw.size
    have hnext := refNext_any R wr (by omega)
    have hdl := sizeL R
    clear hl1 hl2 hall hR
    cases hr : findR R.data.toList with
    | error c =>
      rw [nextT_err hr] at hnext
      have HF := hide hnext
      have hne : ((c : Int) == 0) = false := by have := (findR_err hr).1; simp; omega
      have hrow : RowS wr u4 acc := rowS_of_own hown (by omega) (unhide HALL)
      have hfin1 : lists acc = (allR s.data.toList).1 := by rw [← unhide HL1, allR_err hr]; simp
      have hfin2 : (allR s.data.toList).2 = a0 := by rw [← unhide HL2, allR_err hr]; rfl
      have H1 := hide hfin1
      have H2 := hide hfin2
      have hsub : (s.size : Int) - (R.size : Int) = (a0 : Int) := by omega
      have HROW := hide hrow
      clear hr hnext hfin1 hfin2 hdl hrow hown
      go_wp2_with fail
      refine (unhide HF).mono ?_
      rintro e w2 ⟨rfl, b2⟩
      go_wp2
      go_ret2
      exact ⟨_, acc, by rw [unhide H2]; go_num, (unhide HROW).below b2, unhide H1, belows hbw b2⟩
    | ok p =>
      obtain ⟨a, b⟩ := p
      obtain ⟨u1, u2, u3, _, u5, _⟩ := findR_ok hr
      rw [hdl] at u1
      rw [nextT_ok hr] at hnext
      have HF := hide hnext
      have hdat : (R.extract a b).data.toList = (R.data.toList.take b).drop a := by
        rw [toList_part, List.drop_take]
      have hmor : (R.extract b R.size).data.toList = R.data.toList.drop b := toList_from R b
      have hms : (R.extract b R.size).size = R.size - b := by rw [ByteArray.size_extract]; omega
      have hnx1 : lists (acc ++ [R.extract a b]) ++ (allR (R.extract b R.size).data.toList).1 = (allR s.data.toList).1 := by
        rw [← unhide HL1, allR_ok hr, lists_snoc, hdat, hmor]
        simp
      have hnx2 : a0 + b + (allR (R.extract b R.size).data.toList).2 = (allR s.data.toList).2 := by
        rw [← unhide HL2, allR_ok hr, hmor]
        simp only
        omega
      have hnx3 : (R.extract b R.size).data.toList = s.data.toList.drop (a0 + b) := by rw [hmor, unhide HR, List.drop_drop]
      have hxs63 : (R.extract a b).size ≤ 9223372036854775807 := by rw [ByteArray.size_extract]; omega
      have H1 := hide hnx1
      have H2 := hide hnx2
      have H3 := hide hnx3
      have HX63 := hide hxs63
      clear hr hnext hdat hmor hnx1 hnx2 hnx3 hdl hxs63 HR
      generalize R.extract b R.size = M at *
      generalize R.extract a b = t at *
      go_wp2_with fail
      refine (unhide HF).mono ?_
      rintro e w3 ⟨rfl, b3⟩
      have hown3 := own_below1 hown b3
      have hz3 := b3.size
      have hown : True := trivial
      go_wp2_with (at_builtin; refine wpList_append_own _ rfl _ _ 31 rfl w.heap.size 9 i0 (.string ByteArray.empty) 1 16 Tryd.underlying31 hi hz0 hz1 hz2 rfl (by decide) _ _ _ rfl (hown3.alloc _) ⟨w3.heap.size, 0, none⟩ 1 1 [.string t] rfl rfl ?c1 ?c2 ?c3 ?c4 ?c5 ?_)
      case c1 =>
        intro j u hj
        match j, hj with
        | 0, hj => simp at hj; subst hj; simp [Addr.add]
      case c2 => intro u hu; simp at hu; subst hu; rfl
      case c3 => unfold maxLen; omega
      case c4 => omega
      case c5 => simp; omega
      intro v' w4 hown' hgrow _
      have hb4 : Below w.heap.size w w4 := ((belows hbw b3).alloc (by omega) _).grown hgrow (by simp; omega) (fun k hk => by
        rcases hown3.2 with ⟨hv, _⟩ | ⟨g, cap, cur, hv, hg, _⟩
        · rw [hv] at hk; simp [Value.ownBlock] at hk
        · rw [hv] at hk; simp [Value.ownBlock] at hk; omega)
      rw [cellsS_snoc acc t] at hown'
      go_wp2
      exact ⟨⟨a0 + b, M, acc ++ [t], rfl, by omega, unhide H3, by simp; omega, by
        intro x hx
        rcases List.mem_append.1 hx with hx | hx
        · exact unhide HALL x hx
        · simp at hx; subst hx; exact unhide HX63, by simpa using hown', unhide H1, unhide H2, hb4⟩, by simp [textLen]; omega⟩
end Go.Proofs.YtekcbkaanlngdabDoor
