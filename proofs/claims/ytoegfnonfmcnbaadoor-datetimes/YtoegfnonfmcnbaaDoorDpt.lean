/-
  What date.ParseTime does, over this seat's program.
-/
import Derived.Test.YtoegfnonfmcnbaaDoorDpa
import Derived.Laws.ResultCell
set_option linter.unusedVariables false
namespace Go.Proofs.YtoegfnonfmcnbaaDoor
open Go.RowKit Go.Proofs.Dcl

/-- A byte that is asked for, and what is behind it. -/
def sHas (c : UInt8) (l : List UInt8) : Option (List UInt8) := if l.head? = some c then some (l.drop 1) else none
/-- Two digits of a number below a bound, and what is behind them. -/
def sTwo (below : Nat) (l : List UInt8) : Option (Nat × List UInt8) := match numR (l.take 2) 2 2 with
  | none => none
  | some n => if n < below then some (n, l.drop 2) else none
/-- A zone's sign: whether it is west. -/
def sSign (l : List UInt8) : Option (Bool × List UInt8) := if l.head? = some 45 then some (true, l.drop 1) else if l.head? = some 43 then some (false, l.drop 1) else none
def pt7 (d : Int) (h m x : Nat) (west : Bool) (zh : Nat) (p : Nat × List UInt8) : Option (Int × Int × Int) :=
  if p.2 = [] then some (d, ((h * 60 + m) * 60 + x : Nat), if west then -((zh * 60 + p.1 : Nat) : Int) else ((zh * 60 + p.1 : Nat) : Int)) else none
def pt6 (d : Int) (h m x : Nat) (west : Bool) (p : Nat × List UInt8) : Option (Int × Int × Int) := (sTwo 60 p.2).bind (pt7 d h m x west p.1)
def pt5 (d : Int) (h m x : Nat) (p : Bool × List UInt8) : Option (Int × Int × Int) := (sTwo 100 p.2).bind (pt6 d h m x p.1)
def pt4 (d : Int) (h m : Nat) (p : Nat × List UInt8) : Option (Int × Int × Int) := ((sHas 32 p.2).bind sSign).bind (pt5 d h m p.1)
def pt3 (d : Int) (h : Nat) (p : Nat × List UInt8) : Option (Int × Int × Int) := ((sHas 58 p.2).bind (sTwo 60)).bind (pt4 d h p.1)
def pt2 (d : Int) (p : Nat × List UInt8) : Option (Int × Int × Int) := ((sHas 58 p.2).bind (sTwo 60)).bind (pt3 d p.1)
def pt1 (p : Int × List UInt8) : Option (Int × Int × Int) := ((sHas 32 p.2).bind (sTwo 24)).bind (pt2 p.1)
/-- A client's time. -/
def ptR (l : List UInt8) : Option (Int × Int × Int) := (if l.head? = some 32 then readDayR 1 (l.drop 1) else readDayR 2 l).bind pt1
/-- As Go tells it. -/
def timV (o : Option (Int × Int × Int)) : Value := match o with
  | some p => .tuple #[.agg #[.int .i64 p.1, .int .i64 p.2.1, .int .i64 p.2.2], .int .i64 0]
  | none => .tuple #[.agg #[.int .i64 0, .int .i64 0, .int .i64 0], .int .i64 7]

/-- What two digits are told as. -/
def twoV (below : Nat) (o : Option Nat) : Value := match o with
  | none => .tuple #[.int .i64 0, .bool false]
  | some n => .tuple #[.int .i64 (n : Int), .bool (decide (n < below))]

set_option maxHeartbeats 1000000 in
theorem two_any (b : Nat) (d s z : Int) (l : ByteArray) (below : Nat) (w : World) (hM : Mom w b d s z l) (hs : l.size ≤ 281474976710656) :
    Calls Tryd.prog 33 #[.int .i64 (below : Int), .pointer (some ⟨b, 0, none⟩)] w fun e w' => e = .returned (twoV below (numR (l.data.toList.take 2) 2 2)) ∧ w' = w.setCell ⟨b, 3, none⟩ (.string (bts (l.data.toList.drop 2))) := by
  have HT := hide (take_any b d s z l 2 w hM hs (by omega))
  have HN := hide (fun W => number_any (bts (l.data.toList.take 2)) 2 2 W (by omega) (by omega))
  rw [toList_bts] at HN
  clear hM
  generalize bts (l.data.toList.take 2) = t at HT HN
  generalize numR (l.data.toList.take 2) 2 2 = o at HN ⊢
  generalize w.setCell ⟨b, 3, none⟩ (.string (bts (l.data.toList.drop 2))) = w1 at HT ⊢
  cases o with
  | none =>
    simp only [optV] at HN
    go_enter Tryd.func33, Tryd.ntmps33
    go_wp2_with fail
    refine (unhide HT).mono ?_
    rintro e w1 ⟨rfl, rfl⟩
    go_wp2_with fail
    refine (unhide HN _).mono ?_
    rintro e w1 ⟨rfl, rfl⟩
    go_wp2
    go_ret2
    exact ⟨rfl, rfl⟩
  | some n =>
    simp only [optV] at HN
    by_cases hlt : n < below
    · have hlt' : (n : Int) < (below : Int) := by omega
      have e1 : twoV below (some n) = .tuple #[.int .i64 (n : Int), .bool true] := by simp [twoV, hlt]
      rw [e1]
      clear e1
      go_enter Tryd.func33, Tryd.ntmps33
      go_wp2_with fail
      refine (unhide HT).mono ?_
      rintro e w1 ⟨rfl, rfl⟩
      go_wp2_with fail
      refine (unhide HN _).mono ?_
      rintro e w1 ⟨rfl, rfl⟩
      go_wp2
      go_ret2
      exact ⟨rfl, rfl⟩
    · have hlt' : ¬ (n : Int) < (below : Int) := by omega
      have e1 : twoV below (some n) = .tuple #[.int .i64 (n : Int), .bool false] := by simp [twoV, hlt]
      rw [e1]
      clear e1
      go_enter Tryd.func33, Tryd.ntmps33
      go_wp2_with fail
      refine (unhide HT).mono ?_
      rintro e w1 ⟨rfl, rfl⟩
      go_wp2_with fail
      refine (unhide HN _).mono ?_
      rintro e w1 ⟨rfl, rfl⟩
      go_wp2
      go_ret2
      exact ⟨rfl, rfl⟩

end Go.Proofs.YtoegfnonfmcnbaaDoor
