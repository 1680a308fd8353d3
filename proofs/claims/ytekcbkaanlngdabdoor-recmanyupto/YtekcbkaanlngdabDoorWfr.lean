/-
  What (*strings.Builder).WriteString, rec.writeFrame, rec.Join and rec.Frame do, over this seat's program: records' frames, one behind the other, or the error.
-/
import Derived.Test.YtekcbkaanlngdabDoorSum
import Derived.Test.YtekcbkaanlngdabDoorFrm
import Derived.Test.YtekcbkaanlngdabDoorEvn
import Derived.Lib.AppendStr
set_option linter.unusedVariables false
namespace Go.Proofs.YtekcbkaanlngdabDoor
open Go.RowKit Go.Proofs.Num Go.Proofs.Crc Go.Proofs.Frm

theorem belows' {w a b : World} (h1 : Below w.heap.size w a) (h2 : Below a.heap.size a b) : Below w.heap.size w b := h1.trans (h2.mono h1.size)

theorem isB_below {T e : TypeId} {B b : Nat} {bs : List Value} {w w' : World} (h : Lib.IsBuilderF T e B b bs w) (hb : Below w.heap.size w w') : Lib.IsBuilderF T e B b bs w' := by
  have key : ∀ p, Lib.BuilderAtF T e B b p bs w → Lib.BuilderAtF T e B b p bs w' := by
    rintro p ⟨hB, v, hbk, hown, hne⟩
    refine ⟨hB, v, ?_, ?_, hne⟩
    · rw [hb.block b (Array.getElem?_eq_some_iff.1 hbk).1]; exact hbk
    · obtain ⟨h1, h2⟩ := hown
      refine ⟨h1, ?_⟩
      rcases h2 with h2 | ⟨g, cap, cur, fz, hv, hg, hh, r⟩
      · exact Or.inl h2
      · exact Or.inr ⟨g, cap, cur, fz, hv, hg, by rw [hb.block g (Array.getElem?_eq_some_iff.1 hh).1]; exact hh, r⟩
  rcases h with h | h
  · exact Or.inl (key _ h)
  · exact Or.inr (key _ h)

theorem strCells_eq (s : ByteArray) : Lib.strCells s = Lib.byteCells s.data.toList := by
  simp [Lib.strCells, Lib.byteCells]

set_option maxHeartbeats 2000000 in
set_option maxRecDepth 100000 in
theorem writeString_k (B b : Nat) (l : List UInt8) (s : ByteArray) (w : World) (h : Lib.IsBuilderF 58 5 B b (Lib.byteCells l) w) (hlen : l.length + s.size ≤ 140737488355328) (hBw : B ≤ w.heap.size) :
    Calls Tryd.prog 40 #[.pointer (some ⟨b, 0, none⟩), .string s] w fun e w' => e = .returned (.tuple #[.int .i64 s.size, .nilIface]) ∧ (Lib.IsBuilderF 58 5 B b (Lib.byteCells (l ++ s.data.toList)) w' ∧ Below B w w') := by
  obtain ⟨i0, hi, hz0, hz1, hz2⟩ := info_parts bInfo
  have hll : (Lib.byteCells l).length = l.length := Lib.byteCells_length l
  go_enter Tryd.func40, Tryd.ntmps40
  go_wp2_with (go_at_call 43; refine (copyCheck_k B b (Lib.byteCells l) _ h).mono ?_)
  rintro e w1 ⟨rfl, h1, hb1, hk1⟩
  obtain ⟨hB, v, hbk, hown, hne⟩ := h1
  have c0 : w1.cell? ⟨b, 0, none⟩ = some (.pointer (some ⟨b, 0, none⟩)) := by rw [Lib.cell_of_heap hbk]; rfl
  have c1 : w1.cell? ⟨b, 1, none⟩ = some v := by rw [Lib.cell_of_heap hbk]; rfl
  go_wp2_with (at_builtin; refine Lib.wpList_append_own_stringF _ rfl _ _ 38 9 rfl B 5 i0 Tryd.underlying38 Tryd.underlying9 hi hz0 hz1 hz2 _ _ _ rfl hown s rfl ?c3 ?c4 ?c5 ?_)
  case c3 => unfold maxLen; omega
  case c4 => omega
  case c5 => have := hb1.size; omega
  intro v' w2 hown' hgrow _
  have hlt : b < w1.heap.size := by
    rcases Nat.lt_or_ge b w1.heap.size with h' | h'
    · exact h'
    · simp [Array.getElem?_eq_none h'] at hbk
  have hb2 : w2.heap[b]? = some (.cells #[.pointer (some ⟨b, 0, none⟩), v] 58 (0, 0)) := by
    rw [hgrow.block b hlt (fun e => hne e.symm)]
    exact hbk
  have d0 : w2.cell? ⟨b, 0, none⟩ = some (.pointer (some ⟨b, 0, none⟩)) := by rw [Lib.cell_of_heap hb2]; rfl
  have d1 : w2.cell? ⟨b, 1, none⟩ = some v := by rw [Lib.cell_of_heap hb2]; rfl
  have f1 : w2.frozen? ⟨b, 1, none⟩ = false := Lib.frozen_of_heap hb2 1
  obtain ⟨ao, n', cap, rfl⟩ : ∃ ao n' cap, v' = .slice ao n' cap := by
    rcases hown'.2 with ⟨hv, _⟩ | ⟨g, cap, cur, fz, hv, _⟩
    · exact ⟨_, _, _, hv⟩
    · exact ⟨_, _, _, hv⟩
  go_wp2
  go_ret2
  refine ⟨rfl, Or.inr ?_, ?_⟩
  · have := Lib.BuilderAtF.put (T := 58) (e := 5) hB hb2 (bs' := Lib.byteCells l ++ Lib.strCells s) (by simpa [Lib.strCells_length, hll] using hown') (by decide)
    rw [strCells_eq, ← Lib.byteCells_append] at this
    exact this
  · exact (hb1.grown hgrow (by have := hb1.size; omega) (fun k hk => (hown.lt k hk).1)).setCell (p := ⟨b, 1, none⟩) hB _

theorem byte_of (x k : Nat) (hx : x < 4294967296) : ((x : Int) / 2 ^ k) % 256 = ((UInt8.ofNat (x / 2 ^ k % 256)).toNat : Int) := by
  have : ((x : Int) / 2 ^ k) = ((x / 2 ^ k : Nat) : Int) := by simp
  rw [this]
  simp

set_option maxHeartbeats 1000000 in
set_option maxRecDepth 100000 in
theorem writeFrame_any (B b : Nat) (l : List UInt8) (s : ByteArray) (w : World) (ht : Tab w) (hs : s.size ≤ 1048576) (h : Lib.IsBuilderF 58 5 B b (Lib.byteCells l) w) (hlen : l.length + 2000000 ≤ 140737488355328) (hBw : B ≤ w.heap.size) (hB0 : 0 < B) :
    Calls Tryd.prog 31 #[.pointer (some ⟨b, 0, none⟩), .string s] w fun e w' => e = .returned (.tuple #[]) ∧ Lib.IsBuilderF 58 5 B b (Lib.byteCells (l ++ frameL s.data.toList)) w' ∧ Below B w w' := by
  have hsl : s.data.toList.length = s.size := Array.length_toList ..
  have hl10 := putL_len10 (n := s.size) (by omega)
  have hfr : frameL s.data.toList = putL s.size ++ be4 (sumL (putL s.size ++ s.data.toList)) ++ s.data.toList := by unfold frameL; rw [hsl]
  have HFR := hide hfr
  have HT := hide ht
  clear hfr ht
  go_enter Tryd.func31, Tryd.ntmps31
  go_wp2_with fail
  refine (put_any s.size _ (by omega)).mono ?_
  rintro e w1 ⟨rfl, b1⟩
  have h1 := isB_below h b1
  have HT1 := hide ((unhide HT).below b1)
  have hz1 := b1.size
  go_wp2_with fail
  refine (sumOf_two (bts (putL s.size)) s w1 (unhide HT1) (by rw [size_bts]; omega) (by omega)).mono ?_
  rintro e w2 ⟨rfl, hw2⟩
  have b2 : Below w.heap.size w w2 := by subst hw2; exact belows' b1 ((Below.refl _ w1).alloc (Nat.le_refl _) _)
  have h2 : Lib.IsBuilderF 58 5 B b (Lib.byteCells l) w2 := by subst hw2; exact h1.alloc _
  have hz2 := b2.size
  clear hw2 h1 b1
  rw [toList_bts]
  have hx := sumL_lt (putL s.size ++ s.data.toList)
  generalize sumL (putL s.size ++ s.data.toList) = x at hx HFR
  go_wp2_with fail
  refine (writeString_k B b l { data := (putL s.size).toArray } _ h2 (by have := size_bts (putL s.size); unfold bts at this; omega) (by omega)).mono ?_
  rintro e w3 ⟨rfl, h3, b3⟩
  rw [show (ByteArray.mk (putL s.size).toArray).data.toList = putL s.size from toList_bts _] at h3
  have b3' : Below B w w3 := (b2.mono hBw).trans b3
  have hz3 := b3.size
  go_wp2
  go_loopw [6] (fun z wr => ∃ j : Nat, ((j = 0 ∧ z = .int .i64 24) ∨ (j = 1 ∧ z = .int .i64 16) ∨ (j = 2 ∧ z = .int .i64 8) ∨ (j = 3 ∧ z = .int .i64 0) ∨ (j = 4 ∧ z = .int .i64 (-8))) ∧ Lib.IsBuilderF 58 5 B b (Lib.byteCells (l ++ putL s.size ++ (be4 x).take j)) wr ∧ Below B w wr) (fun z _ => (intOf z + 8).toNat)
  case atStart => exact ⟨0, Or.inl ⟨rfl, rfl⟩, by simpa using h3, b3'⟩
  case round =>
    obtain ⟨j, hj, hI, hbw⟩ := hrel
    have hzr := hbw.size
    rcases hj with ⟨rfl, rfl⟩ | ⟨rfl, rfl⟩ | ⟨rfl, rfl⟩ | ⟨rfl, rfl⟩ | ⟨rfl, rfl⟩
    · have hv : (x : Int) / 16777216 = ((UInt8.ofNat (x / 16777216 % 256)).toNat : Int) := by simp; omega
      have HV := hide hv
      clear hv
      go_wp2_with fail
      refine (writeByte_k B b (Lib.byteCells (l ++ putL s.size ++ (be4 x).take 0)) _ _ hI (by rw [Lib.byteCells_length]; simp [be4]; omega) (by omega)).mono ?_
      rintro e w5 ⟨rfl, h5, hb5, _⟩
      rw [byteCells_snoc _ (UInt8.ofNat (x / 16777216 % 256)) _ (unhide HV), List.append_assoc _ _ [_]] at h5
      go_wp2
      exact ⟨⟨0 + 1, Or.inr (Or.inl ⟨rfl, rfl⟩), Or.inr h5, hbw.trans hb5⟩, by simp [intOf]⟩
    · have hv : ((x : Int) / 65536) % 256 = ((UInt8.ofNat (x / 65536 % 256)).toNat : Int) := by simp
      have HV := hide hv
      clear hv
      go_wp2_with fail
      refine (writeByte_k B b (Lib.byteCells (l ++ putL s.size ++ (be4 x).take 1)) _ _ hI (by rw [Lib.byteCells_length]; simp [be4]; omega) (by omega)).mono ?_
      rintro e w5 ⟨rfl, h5, hb5, _⟩
      rw [byteCells_snoc _ (UInt8.ofNat (x / 65536 % 256)) _ (unhide HV), List.append_assoc _ _ [_]] at h5
      go_wp2
      exact ⟨⟨1 + 1, Or.inr (Or.inr (Or.inl ⟨rfl, rfl⟩)), Or.inr h5, hbw.trans hb5⟩, by simp [intOf]⟩
    · have hv : ((x : Int) / 256) % 256 = ((UInt8.ofNat (x / 256 % 256)).toNat : Int) := by simp
      have HV := hide hv
      clear hv
      go_wp2_with fail
      refine (writeByte_k B b (Lib.byteCells (l ++ putL s.size ++ (be4 x).take 2)) _ _ hI (by rw [Lib.byteCells_length]; simp [be4]; omega) (by omega)).mono ?_
      rintro e w5 ⟨rfl, h5, hb5, _⟩
      rw [byteCells_snoc _ (UInt8.ofNat (x / 256 % 256)) _ (unhide HV), List.append_assoc _ _ [_]] at h5
      go_wp2
      exact ⟨⟨2 + 1, Or.inr (Or.inr (Or.inr (Or.inl ⟨rfl, rfl⟩))), Or.inr h5, hbw.trans hb5⟩, by simp [intOf]⟩
    · have hv : ((x : Int)) % 256 = ((UInt8.ofNat (x % 256)).toNat : Int) := by simp
      have HV := hide hv
      clear hv
      go_wp2_with fail
      refine (writeByte_k B b (Lib.byteCells (l ++ putL s.size ++ (be4 x).take 3)) _ _ hI (by rw [Lib.byteCells_length]; simp [be4]; omega) (by omega)).mono ?_
      rintro e w5 ⟨rfl, h5, hb5, _⟩
      rw [byteCells_snoc _ (UInt8.ofNat (x % 256)) _ (unhide HV), List.append_assoc _ _ [_]] at h5
      go_wp2
      exact ⟨⟨3 + 1, Or.inr (Or.inr (Or.inr (Or.inr (⟨rfl, rfl⟩)))), Or.inr h5, hbw.trans hb5⟩, by simp [intOf]⟩
    · go_wp2_with fail
      refine (writeString_k B b (l ++ putL s.size ++ (be4 x).take 4) s _ hI (by simp [be4]; omega) (by omega)).mono ?_
      rintro e w5 ⟨rfl, h5, b5⟩
      go_wp2
      go_end0
      refine ⟨rfl, ?_, hbw.trans b5⟩
      rw [unhide HFR]
      have : (be4 x).take 4 = be4 x := rfl
      rw [this] at h5
      rw [← List.append_assoc, ← List.append_assoc]
      exact h5

/-- The frames of some texts, as far as each is short enough. -/
theorem joinR_long {l : List (List UInt8)} {k : Nat} (hk : k < l.length) (hs : ∀ j (h : j < k), (l[j]'(by omega)).length ≤ 1048576) (h : 1048576 < l[k].length) : joinR l = ([], 15) := by
  induction l generalizing k with
  | nil => simp at hk
  | cons s r ih =>
    cases k with
    | zero => simp at h; simp [joinR, h]
    | succ k =>
      have h0 := hs 0 (by omega)
      simp at h0 h
      have := ih (k := k) (by simpa using hk) (fun j hj => by have := hs (j + 1) (by omega); simpa using this) h
      simp [joinR, this, show ¬ 1048576 < s.length by omega]

theorem joinR_all {l : List (List UInt8)} (hs : ∀ s ∈ l, s.length ≤ 1048576) : joinR l = ((l.map frameL).flatten, 0) := by
  induction l with
  | nil => rfl
  | cons s r ih =>
    have h0 := hs s (by simp)
    have := ih (fun x hx => hs x (by simp [hx]))
    simp [joinR, this, show ¬ 1048576 < s.length by omega]

/-- The frames of the first k texts. -/
def framed (l : List ByteArray) : List UInt8 := (l.map fun s => frameL s.data.toList).flatten

theorem framed_take {l : List ByteArray} {k : Nat} (h : k < l.length) : framed (l.take (k + 1)) = framed (l.take k) ++ frameL l[k].data.toList := by
  unfold framed
  rw [List.take_succ_eq_append_getElem h, List.map_append, List.flatten_append]
  simp

theorem frame_le (s : List UInt8) (h : s.length ≤ 1048576) : (frameL s).length ≤ 1048590 := by
  have := frameL_length s
  have := putL_len10 (n := s.length) (by omega)
  omega

/-- A list of texts as lists of bytes. -/
def lists (l : List ByteArray) : List (List UInt8) := l.map fun s => s.data.toList

theorem sizeL (s : ByteArray) : s.data.toList.length = s.size := Array.length_toList ..

set_option maxHeartbeats 1000000 in
set_option maxRecDepth 100000 in
theorem join_some (b off cap : Nat) (l : List ByteArray) (w : World) (ht : Tab w) (hn : l.length ≤ 100000000) (hsz : ∀ s ∈ l, s.size ≤ 9223372036854775807) (hb : b < w.heap.size) (hc : ∀ j (h : j < l.length), w.cell? ⟨b, off + j, none⟩ = some (.string l[j])) :
    Calls Tryd.prog 16 #[.slice (some ⟨b, off, none⟩) l.length cap] w fun e w' => e = .returned (.tuple #[.string (bts (joinR (lists l)).1), .int .i64 (joinR (lists l)).2]) ∧ Below w.heap.size w w' := by
  have HC := hide hc
  have HZ := hide hsz
  have HT := hide ht
  have hh0 := ht.1
  clear hc hsz ht
  go_enter Tryd.func16, Tryd.ntmps16
  go_wp2
  go_loopw [6, 9] (fun y z wr => ∃ k : Nat, z = .int .i64 k ∧ k ≤ l.length ∧ (framed (l.take k)).length ≤ 1048590 * k ∧ (∀ j (h : j < l.length), j < k → l[j].size ≤ 1048576) ∧ Lib.IsBuilderF 58 5 w.heap.size w.heap.size (Lib.byteCells (framed (l.take k))) wr ∧ Below w.heap.size w wr ∧ w.heap.size + 1 ≤ wr.heap.size) (fun _ z _ => l.length - (intOf z).toNat)
  case atStart => exact ⟨0, rfl, Nat.zero_le _, by simp [framed], by intro j _ h; omega, Lib.IsBuilderF.of (Lib.fresh_isBuilder 58 5 w), (Below.refl _ w).alloc (Nat.le_refl _) _, by simp⟩
  case round =>
    obtain ⟨k, rfl, hk, hfl, hall, hI, hbw, hzr⟩ := hrel
    have HALL := hide hall
    clear hall
    by_cases hlt : k < l.length
    · have hcx : wr.cell? ⟨b, off + k, none⟩ = some (.string l[k]) := (hbw.cell (p := ⟨b, off + k, none⟩) hb).trans (unhide HC k hlt)
      have h63 : l[k].size ≤ 9223372036854775807 := unhide HZ _ (List.getElem_mem hlt)
      by_cases hbig : 1048576 < l[k].size
      · have hfin : joinR (lists l) = ([], 15) := by
          refine joinR_long (k := k) (by simpa [lists] using hlt) (fun j hj => ?_) ?_
          · simp only [lists, List.getElem_map]
            rw [sizeL]
            exact unhide HALL j (by omega) hj
          · simp only [lists, List.getElem_map]
            rw [sizeL]
            exact hbig
        have HF := hide hfin
        clear hfin
        generalize l[k] = s at hcx h63 hbig
        go_wp2
        go_ret2
        exact ⟨by rw [unhide HF]; rfl, hbw⟩
      · have HFT := hide (framed_take hlt)
        have hle := frame_le l[k].data.toList (by rw [sizeL]; omega)
        have HLE := hide hle
        have hnx : ∀ j (h : j < l.length), j < k + 1 → l[j].size ≤ 1048576 := by
          intro j hj hjk
          rcases Nat.lt_or_ge j k with h | h
          · exact unhide HALL j hj h
          · have : j = k := by omega
            subst this
            omega
        have HNX := hide hnx
        have HTB := hide ((unhide HT).below hbw)
        clear hnx hle
        generalize l[k] = s at hcx h63 hbig HFT HLE
        go_wp2_with fail
        refine (writeFrame_any w.heap.size w.heap.size (framed (l.take k)) s _ (unhide HTB) (by omega) hI (by omega) (by omega) hh0).mono ?_
        rintro e w2 ⟨rfl, h2, b2⟩
        have hz2 := b2.size
        rw [← unhide HFT] at h2
        have hlen2 : (framed (l.take (k + 1))).length ≤ 1048590 * (k + 1) := by
          rw [unhide HFT, List.length_append]
          have := unhide HLE
          omega
        have HL2 := hide hlen2
        clear hlen2
        go_wp2
        exact ⟨⟨k + 1, by go_num, by omega, unhide HL2, unhide HNX, h2, hbw.trans b2, by omega⟩, by simp [intOf]; omega⟩
    · have hke : k = l.length := by omega
      have hfin : joinR (lists l) = (framed (l.take k), 0) := by
        rw [hke, List.take_length]
        refine (joinR_all fun s hs => ?_).trans ?_
        · obtain ⟨x, hx, rfl⟩ := List.mem_map.1 hs
          obtain ⟨j, hj, rfl⟩ := List.getElem_of_mem hx
          rw [sizeL]
          exact unhide HALL j hj (by omega)
        · simp [lists, framed, List.map_map, Function.comp_def]
      have HF := hide hfin
      clear hfin hke
      go_wp2_with fail
      refine (Tryd.Builder_String_any_k w.heap.size w.heap.size (framed (l.take k)) _ hI (by omega)).mono ?_
      rintro e w2 ⟨rfl, _, hb2, _⟩
      go_wp2
      go_ret2
      exact ⟨by rw [unhide HF]; rfl, hbw.trans hb2⟩

set_option maxHeartbeats 1000000 in
set_option maxRecDepth 100000 in
theorem join_nil (a : Option Addr) (cap : Nat) (w : World) (ht : Tab w) :
    Calls Tryd.prog 16 #[.slice a 0 cap] w fun e w' => e = .returned (.tuple #[.string (bts []), .int .i64 0]) ∧ Below w.heap.size w w' := by
  clear ht
  go_enter Tryd.func16, Tryd.ntmps16
  go_wp2
  go_loopw [6, 9] (fun y z wr => z = .int .i64 0 ∧ Lib.IsBuilderF 58 5 w.heap.size w.heap.size (Lib.byteCells []) wr ∧ Below w.heap.size w wr ∧ w.heap.size + 1 ≤ wr.heap.size) (fun _ _ _ => 0)
  case atStart => exact ⟨rfl, Lib.IsBuilderF.of (Lib.fresh_isBuilder 58 5 w), (Below.refl _ w).alloc (Nat.le_refl _) _, by simp⟩
  case round =>
    obtain ⟨rfl, hI, hbw, hzr⟩ := hrel
    go_wp2_with fail
    refine (Tryd.Builder_String_any_k w.heap.size w.heap.size [] _ hI (by omega)).mono ?_
    rintro e w2 ⟨rfl, _, hb2, _⟩
    go_wp2
    go_ret2
    exact ⟨rfl, hbw.trans hb2⟩

/-- rec.Join answers the frames, one behind the other, or the error. -/
theorem join_any (v : Value) (l : List ByteArray) (w : World) (ht : Tab w) (hn : l.length ≤ 100000000) (h : RowS w v l) :
    Calls Tryd.prog 16 #[v] w fun e w' => e = .returned (.tuple #[.string (bts (joinR (lists l)).1), .int .i64 (joinR (lists l)).2]) ∧ Below w.heap.size w w' := by
  obtain ⟨a, cap, rfl, hl, hsz, hc⟩ := h
  rcases hc with rfl | ⟨b, off, rfl, hb, hc⟩
  · exact join_nil a cap w ht
  · exact join_some b off cap l w ht hn hsz hb hc

theorem rowS_one (w : World) (x : ByteArray) (hx : x.size ≤ 9223372036854775807) : RowS (w.alloc (.cells #[.string x] 9)) (.slice (some ⟨w.heap.size, 0, none⟩) 1 1) [x] := by
  refine ⟨_, 1, rfl, by simp, by simpa using hx, Or.inr ⟨w.heap.size, 0, rfl, by simp, fun j hj => ?_⟩⟩
  match j, hj with
  | 0, _ => simp
theorem rowS_two (w : World) (x y : ByteArray) (hx : x.size ≤ 9223372036854775807) (hy : y.size ≤ 9223372036854775807) : RowS (w.alloc (.cells #[.string x, .string y] 9)) (.slice (some ⟨w.heap.size, 0, none⟩) 2 2) [x, y] := by
  refine ⟨_, 2, rfl, by simp, by simp; exact ⟨hx, hy⟩, Or.inr ⟨w.heap.size, 0, rfl, by simp, fun j hj => ?_⟩⟩
  match j, hj with
  | 0, _ => simp
  | 1, _ => simp

theorem below_alloc' {w w' : World} {o : Obj} (h : Below (w.alloc o).heap.size (w.alloc o) w') : Below w.heap.size w w' := ((Below.refl _ w).alloc (Nat.le_refl _) o).trans (h.mono (by simp))
theorem tab_alloc {w : World} (h : Tab w) (o : Obj) : Tab (w.alloc o) := h.below ((Below.refl _ w).alloc (Nat.le_refl _) _)

/-- A record's frame, or the error. -/
def frameR (s : List UInt8) : List UInt8 × Nat := if 1048576 < s.length then ([], 15) else (frameL s, 0)

set_option maxHeartbeats 400000 in
theorem frame_any (s : ByteArray) (w : World) (ht : Tab w) (hs : s.size ≤ 9223372036854775807) :
    Calls Tryd.prog 9 #[.string s] w fun e w' => e = .returned (.tuple #[.string (bts (frameR s.data.toList).1), .int .i64 (frameR s.data.toList).2]) ∧ Below w.heap.size w w' := by
  have hj : joinR (lists [s]) = frameR s.data.toList := by
    unfold frameR
    simp [lists, joinR]
  have HC := hide (join_any _ [s] _ (tab_alloc ht _) (by simp) (rowS_one w s hs))
  rw [hj] at HC
  clear ht hj
  go_enter Tryd.func9, Tryd.ntmps9
  go_wp2_with fail
  refine (unhide HC).mono ?_
  rintro e w1 ⟨rfl, b1⟩
  go_wp2
  go_ret2
  exact ⟨rfl, below_alloc' b1⟩
end Go.Proofs.YtekcbkaanlngdabDoor
