/-
  What date.Parse does, over this seat's program.
-/
import Derived.Test.YtoegfnonfmcnbaaDoorDrd
set_option linter.unusedVariables false
namespace Go.Proofs.YtoegfnonfmcnbaaDoor
open Go.RowKit Go.Proofs.Dcl

/-- The day, if nothing is left. -/
def dayOnly (o : Option (Int × List UInt8)) : Option Int := match o with
  | some (d, []) => some d
  | _ => none
/-- A client's day. -/
def parseR (l : List UInt8) : Option Int :=
  if Lib.indexByte l 45 < 1 ∨ 2 < Lib.indexByte l 45 ∨ (Lib.indexByte l 45 = 2 ∧ l.head? = some 48) then none
  else dayOnly (readDayR (Lib.indexByte l 45).toNat l)
/-- A number, or an error. -/
def numV (o : Option Int) (no : Int) : Value := match o with
  | some n => .tuple #[.int .i64 n, .int .i64 0]
  | none => .tuple #[.int .i64 0, .int .i64 no]

theorem mom_new (w : World) (l : ByteArray) : Mom (w.alloc (.cells #[.int .i64 0, .int .i64 0, .int .i64 0, .string l] 36)) w.heap.size 0 0 0 l := Blk.new w _ _

theorem bts_ne (l : List UInt8) : ((bts l).toList == (ByteArray.toList { data := #[] })) = decide (l = []) := by
  rw [ByteArray.toList_eq, ByteArray.toList_eq, toList_bts]
  cases l <;> simp

set_option maxHeartbeats 1000000 in
set_option maxRecDepth 100000 in
theorem parse_any (s : ByteArray) (w : World) (ht : LTab w) (hs : s.size ≤ 140737488355328) :
    Calls Tryd.prog 5 #[.string s] w fun e w' => e = .returned (numV (parseR s.data.toList) 7) ∧ Below w.heap.size w w' := by
  have HI := hide (fun W => Tryd.strings_IndexByte s 45 W)
  rw [show (45 : Int).toNat.toUInt8 = 45 from rfl] at HI
  obtain ⟨i, hi⟩ : ∃ i, i = Lib.indexByte s.data.toList 45 := ⟨_, rfl⟩
  have HA := hide ((Below.refl _ w).alloc (Nat.le_refl _) (.cells #[.int .i64 0, .int .i64 0, .int .i64 0, .string s] 36))
  have HM := hide (mom_new w s)
  have HTB := hide (ht.below (unhide HA))
  have hg : 0 < w.heap.size := ht.size
  clear ht
  unfold parseR
  rw [← hi] at HI ⊢
  by_cases a1 : i < 1
  · rw [if_pos (Or.inl a1)]
    clear hi
    go_enter Tryd.func5, Tryd.ntmps5
    go_wp2_with fail
    refine (unhide HI _).mono ?_
    rintro e _ ⟨rfl, rfl⟩
    go_wp2
    go_ret2
    exact ⟨rfl, unhide HA⟩
  by_cases a2 : 2 < i
  · rw [if_pos (Or.inr (Or.inl a2))]
    clear hi
    go_enter Tryd.func5, Tryd.ntmps5
    go_wp2_with fail
    refine (unhide HI _).mono ?_
    rintro e _ ⟨rfl, rfl⟩
    go_wp2
    go_ret2
    exact ⟨rfl, unhide HA⟩
  have hss : i = 2 → 0 < s.size := by
    intro h2
    rcases Nat.eq_zero_or_pos s.size with h0 | h0
    · rw [← sizeL] at h0
      rw [List.eq_nil_of_length_eq_zero h0] at hi
      simp [Lib.indexByte] at hi
      omega
    · exact h0
  have hhead : ∀ h : 0 < s.size, s.data.toList.head? = some s[0] := by
    intro h
    have := drop_byte s 0 h
    rw [List.drop_zero] at this
    rw [this]; rfl
  obtain ⟨k, hk⟩ : ∃ k : Nat, i = (k : Int) := ⟨i.toNat, by omega⟩
  subst hk
  have HR := hide (readDay_any w.heap.size 0 0 0 s k _ (unhide HM) (unhide HTB) hg (by omega) (by omega))
  have hcase : (k = 1) ∨ (k = 2 ∧ s.data.toList.head? = some 48) ∨ (k = 2 ∧ ¬ s.data.toList.head? = some 48) := by
    have hk12 : k = 1 ∨ k = 2 := by omega
    rcases hk12 with h | h
    · exact .inl h
    · by_cases h8 : s.data.toList.head? = some 48
      · exact .inr (.inl ⟨h, h8⟩)
      · exact .inr (.inr ⟨h, h8⟩)
  rcases hcase with rfl | ⟨rfl, h48⟩ | ⟨rfl, h48⟩
  · rw [if_neg (by omega)]
    rw [show (((1 : Nat) : Int)).toNat = 1 from rfl]
    clear hi hss hhead
    go_enter Tryd.func5, Tryd.ntmps5
    go_wp2_with fail
    refine (unhide HI _).mono ?_
    rintro e _ ⟨rfl, rfl⟩
    go_wp2_with fail
    refine (unhide HR).mono ?_
    rintro e w1 (⟨hno, rfl, d', l', hm, hb⟩ | ⟨⟨dd, ll⟩, hyes, rfl, hm, hb⟩)
    · have HN := hide hno
      have HB := hide ((unhide HA).trans hb)
      clear hno hm hb HR HI HM HTB
      go_wp2
      go_ret2
      exact ⟨by rw [unhide HN]; rfl, unhide HB⟩
    · have HN := hide hyes
      have c3 : w1.cell? ⟨w.heap.size, 3, none⟩ = some (.string (bts ll)) := (Blk.cell hm 3).trans rfl
      have c0 : w1.cell? ⟨w.heap.size, 0, none⟩ = some (.int .i64 dd) := (Blk.cell hm 0).trans rfl
      have HB := hide ((unhide HA).trans hb)
      clear hm hb hyes HR HI HM HTB
      cases ll with
      | nil =>
        have he : (bts []).toList.isEmpty = true := by rw [ByteArray.toList_eq, toList_bts]; rfl
        go_wp2
        go_ret2
        exact ⟨by rw [unhide HN]; rfl, unhide HB⟩
      | cons x r =>
        have hne : ((bts (x :: r)).toList.isEmpty) = false := by rw [ByteArray.toList_eq, toList_bts]; rfl
        go_wp2
        go_ret2
        exact ⟨by rw [unhide HN]; rfl, unhide HB⟩
  · rw [if_pos (Or.inr (Or.inr ⟨rfl, h48⟩))]
    have h0 := hss rfl
    have hb0 : ((s[0].toNat : Int) == 48) = true := by
      have := hhead h0
      rw [h48] at this
      rw [← Option.some.inj this]; rfl
    clear hi hss hhead h48 HR
    go_enter Tryd.func5, Tryd.ntmps5
    go_wp2_with fail
    refine (unhide HI _).mono ?_
    rintro e _ ⟨rfl, rfl⟩
    go_wp2
    go_ret2
    exact ⟨rfl, unhide HA⟩
  · rw [if_neg (fun h => by rcases h with h | h | h; · omega
                            · omega
                            · exact h48 h.2)]
    rw [show (((2 : Nat) : Int)).toNat = 2 from rfl]
    have h0 := hss rfl
    have hb0 : ((s[0].toNat : Int) == 48) = false := by
      have := hhead h0
      rw [this] at h48
      rw [beq_eq_false_iff_ne]
      intro h
      apply h48
      congr 1
      apply UInt8.toNat_inj.1
      have : (48 : UInt8).toNat = 48 := rfl
      omega
    clear hi hss hhead h48
    go_enter Tryd.func5, Tryd.ntmps5
    go_wp2_with fail
    refine (unhide HI _).mono ?_
    rintro e _ ⟨rfl, rfl⟩
    go_wp2_with fail
    refine (unhide HR).mono ?_
    rintro e w1 (⟨hno, rfl, d', l', hm, hb⟩ | ⟨⟨dd, ll⟩, hyes, rfl, hm, hb⟩)
    · have HN := hide hno
      have HB := hide ((unhide HA).trans hb)
      clear hno hm hb HR HI HM HTB
      go_wp2
      go_ret2
      exact ⟨by rw [unhide HN]; rfl, unhide HB⟩
    · have HN := hide hyes
      have c3 : w1.cell? ⟨w.heap.size, 3, none⟩ = some (.string (bts ll)) := (Blk.cell hm 3).trans rfl
      have c0 : w1.cell? ⟨w.heap.size, 0, none⟩ = some (.int .i64 dd) := (Blk.cell hm 0).trans rfl
      have HB := hide ((unhide HA).trans hb)
      clear hm hb hyes HR HI HM HTB
      cases ll with
      | nil =>
        have he : (bts []).toList.isEmpty = true := by rw [ByteArray.toList_eq, toList_bts]; rfl
        go_wp2
        go_ret2
        exact ⟨by rw [unhide HN]; rfl, unhide HB⟩
      | cons x r =>
        have hne : ((bts (x :: r)).toList.isEmpty) = false := by rw [ByteArray.toList_eq, toList_bts]; rfl
        go_wp2
        go_ret2
        exact ⟨by rw [unhide HN]; rfl, unhide HB⟩

end Go.Proofs.YtoegfnonfmcnbaaDoor
