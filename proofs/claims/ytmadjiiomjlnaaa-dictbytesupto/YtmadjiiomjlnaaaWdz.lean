/-
  The walk of missivelaw14.DictBytes, over this seat's program.
-/
import Derived.Test.YtmadjiiomjlnaaaWda
import Derived.Test.YtmadjiiomjlnaaaRdw
import Derived.Test.YtmadjiiomjlnaaaWdk
set_option linter.unusedVariables false
namespace Go.Proofs.Ytmadjiiomjlnaaa
open Go.RowKit Go.Proofs.Num Go.Proofs.Dct

def entsL (L : List UInt8) : List Ent := match readD L with
  | .error _ => []
  | .ok (l, _) => l.map entB
def backL (s : ByteArray) : ByteArray := match readD s.data.toList with
  | .error _ => { data := #[] }
  | .ok (_, q) => s.extract q s.size
theorem dread_is {s : ByteArray} {w' : World} {v : Value} {x : ByteArray} {c : Nat} (h : DRead s w' v x c) : RowE w' v (entsL s.data.toList) ∧ x = backL s ∧ c = codeD s.data.toList := by
  unfold DRead at h
  unfold entsL codeD backL
  cases hE : readD s.data.toList with
  | error e => rw [hE] at h; obtain ⟨rfl, rfl, rfl⟩ := h; exact ⟨RowG.nil _ _ _, rfl, rfl⟩
  | ok x => obtain ⟨l, q⟩ := x; rw [hE] at h; exact h

set_option maxHeartbeats 4000000 in
set_option maxRecDepth 100000 in
theorem dictBytes_walk (v : Value) (l : List Ent) (s : ByteArray) (w : World) (h : RowE w v l) (hsum : sumE l + s.size ≤ 1048576) :
    Calls Try.prog 3 #[v, .string s] w fun e w' => e = .returned (.bool true) ∧ Below w.heap.size w w' := by
  have hz := sizeL s
  have htot : (datas (l.map lstE)).length ≤ 1099511627776 := by have := datas_sum l; omega
  have HW := hide (dwrite_any v l w h htot)
  have HWW := hide (fun W (hr : RowE W v l) => refWrite_any v l W hr htot)
  have HRD := hide (fun W => dread_any s W (by omega))
  have HRD2 := hide (fun W => refRead_any s.data.toList W (by omega))
  rw [bts_toList] at HRD2
  have HL := hide (fun W => dlives_any W)
  have HR := hide h
  obtain ⟨ad, cap, hv, _⟩ := h
  subst hv
  generalize writeD (l.map lstE) = F at HW HWW
  obtain ⟨F1, F2⟩ := F
  clear hz htot hsum
  go_enter Try.func3, Try.ntmps3
  go_wp2_with fail
  refine (unhide HW).mono ?_
  rintro e W1 ⟨rfl, hb⟩
  have HB1 := hide hb
  have HW2 := hide (unhide HWW W1 ((unhide HR).below hb))
  clear hb HW HWW HR
  go_wp2_with fail
  refine (unhide HW2).mono ?_
  rintro e W2 ⟨rfl, hb⟩
  have HB2 := hide (belows' (unhide HB1) hb)
  clear hb HW2 HB1
  go_wp2_with fail
  refine (unhide HRD _).mono ?_
  rintro e W3 ⟨v3, x3, c3, rfl, hr, hb⟩
  obtain ⟨r3, hx3, h3⟩ := dread_is hr
  have HB3 := hide (belows' (unhide HB2) hb)
  have HR3 := hide r3
  clear hb HRD HB2 hr
  go_wp2_with fail
  refine (unhide HRD2 _).mono ?_
  rintro e W4 ⟨v4, x4, c4, rfl, hr, hb⟩
  obtain ⟨r4, hx4, h4⟩ := dread_is hr
  have HB4 := hide (belows' (unhide HB3) hb)
  have HR4 := hide r4
  have HR34 := hide ((unhide HR3).below hb)
  clear hb HRD2 HB3 hr HR3
  subst h3 h4 hx3 hx4
  obtain ⟨a3, p3, hv3, _⟩ := r3
  obtain ⟨a4, p4, hv4, _⟩ := r4
  subst hv3 hv4
  generalize codeD s.data.toList = C at *
  generalize backL s = X at *
  generalize entsL s.data.toList = G at *
  go_wp2_with fail
  refine (unhide HL _).mono ?_
  rintro e W7 ⟨rfl, hb⟩
  have HB7 := hide (belows' (unhide HB4) hb)
  have HS7 := hide (sameE_any _ _ G G W7 ((unhide HR34).below hb) ((unhide HR4).below hb))
  rw [decide_eq_true rfl] at HS7
  clear hb HL HB4 HR34 HR4
  have hfe : ((bts F1).toList == (bts F1).toList) = true := by simp
  have hfx : (X.toList == X.toList) = true := by simp
  go_wp2_with fail
  refine (unhide HS7).mono ?_
  rintro e W8 ⟨rfl, hb⟩
  have HB8 := hide (belows' (unhide HB7) hb)
  clear hb HS7 HB7
  go_wp2
  go_ret
  exact ⟨by simp, unhide HB8⟩
end Go.Proofs.Ytmadjiiomjlnaaa
