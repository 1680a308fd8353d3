/-
  The walk of missivelaw14.DictAsks, over this seat's program.
-/
import Derived.Test.YtmadjiiomjlnaaaDlv
import Derived.Test.YtmadjiiomjlnaaaRdb
set_option linter.unusedVariables false
namespace Go.Proofs.Ytmadjiiomjlnaaa
open Go.RowKit Go.Proofs.Num Go.Proofs.Dct

def codeD (L : List UInt8) : Nat := match readD L with
  | .error e => e
  | .ok _ => 0
def rngL (L : List UInt8) (f t : Nat) : List Ent := match readD L with
  | .error _ => []
  | .ok (l, _) => (l.filter (inB f t)).map entB
def keysL (L : List UInt8) : List Nat := match readD L with
  | .error _ => []
  | .ok (l, _) => keysE l
theorem drange_is {s : ByteArray} {f t : Nat} {w' : World} {v : Value} {c : Nat} (h : DRange s f t w' v c) : RowE w' v (rngL s.data.toList f t) ∧ c = codeD s.data.toList := by
  unfold DRange at h
  unfold rngL codeD
  cases hE : readD s.data.toList with
  | error e => rw [hE] at h; obtain ⟨rfl, rfl⟩ := h; exact ⟨RowG.nil _ _ _, rfl⟩
  | ok x => obtain ⟨l, q⟩ := x; rw [hE] at h; exact h
theorem dkeys_is {s : ByteArray} {w' : World} {v : Value} {c : Nat} (h : DKeys s w' v c) : RowU w' v (keysL s.data.toList) ∧ c = codeD s.data.toList := by
  unfold DKeys at h
  unfold keysL codeD
  cases hE : readD s.data.toList with
  | error e => rw [hE] at h; obtain ⟨rfl, rfl⟩ := h; exact ⟨RowG.nil _ _ _, rfl⟩
  | ok x => obtain ⟨l, q⟩ := x; rw [hE] at h; exact h
theorem nat_of_u64 {key : Int} (hw : (Lit.int .u64 key).wf = true) : ∃ k : Nat, key = (k : Int) ∧ k ≤ 18446744073709551615 := by
  simp only [Lit.wf, Bool.and_eq_true, decide_eq_true_eq] at hw
  have h1 : IntKind.u64.min = 0 := by decide
  have h2 : IntKind.u64.max = 18446744073709551615 := by decide
  exact ⟨key.toNat, by omega, by omega⟩

set_option maxHeartbeats 4000000 in
set_option maxRecDepth 100000 in
theorem dictAsks_walk (s : ByteArray) (key to : Int) (w : World) (hs : s.size ≤ 140737488351232) (hk : (Lit.int .u64 key).wf = true) (ht : (Lit.int .u64 to).wf = true) :
    Calls Try.prog 4 #[.string s, .int .u64 key, .int .u64 to] w fun e w' => e = .returned (.bool true) ∧ Below w.heap.size w w' := by
  obtain ⟨k, rfl, hk1⟩ := nat_of_u64 hk
  obtain ⟨t, rfl, ht1⟩ := nat_of_u64 ht
  have hz := sizeL s
  have HF := hide (fun W => dfind_any s k W (by omega) hk1)
  have HF2 := hide (fun W => refFind_any s.data.toList k W (by omega) hk1)
  have HG := hide (fun W => drange_any s k t W (by omega) hk1 ht1)
  have HG2 := hide (fun W => refRange_any s.data.toList k t W (by omega) hk1 ht1)
  have HK := hide (fun W => dkeys_any s W (by omega))
  have HK2 := hide (fun W => refKeys_any s.data.toList W (by omega))
  rw [bts_toList] at HF2 HG2 HK2
  have HL := hide (fun W => dlives_any W)
  generalize findR s.data.toList k = F at HF HF2
  obtain ⟨F1, F2⟩ := F
  clear hk ht hz
  go_enter Try.func4, Try.ntmps4
  go_wp2_with fail
  refine (unhide HF _).mono ?_
  rintro e W1 ⟨rfl, hb⟩
  have HB1 := hide hb
  clear hb HF
  go_wp2_with fail
  refine (unhide HF2 _).mono ?_
  rintro e W2 ⟨rfl, hb⟩
  have HB2 := hide (belows' (unhide HB1) hb)
  clear hb HF2 HB1
  go_wp2_with fail
  refine (unhide HG _).mono ?_
  rintro e W3 ⟨v3, c3, rfl, hr, hb⟩
  obtain ⟨r3, h3⟩ := drange_is hr
  have HB3 := hide (belows' (unhide HB2) hb)
  have HR3 := hide r3
  clear hb HG HB2 hr
  go_wp2_with fail
  refine (unhide HG2 _).mono ?_
  rintro e W4 ⟨v4, c4, rfl, hr, hb⟩
  obtain ⟨r4, h4⟩ := drange_is hr
  have HB4 := hide (belows' (unhide HB3) hb)
  have HR4 := hide r4
  have HR34 := hide ((unhide HR3).below hb)
  clear hb HG2 HB3 hr HR3
  go_wp2_with fail
  refine (unhide HK _).mono ?_
  rintro e W5 ⟨v5, c5, rfl, hr, hb⟩
  obtain ⟨r5, h5⟩ := dkeys_is hr
  have HB5 := hide (belows' (unhide HB4) hb)
  have HR5 := hide r5
  have HR35 := hide ((unhide HR34).below hb)
  have HR45 := hide ((unhide HR4).below hb)
  clear hb HK HB4 hr HR34 HR4
  go_wp2_with fail
  refine (unhide HK2 _).mono ?_
  rintro e W6 ⟨v6, c6, rfl, hr, hb⟩
  obtain ⟨r6, h6⟩ := dkeys_is hr
  have HB6 := hide (belows' (unhide HB5) hb)
  have HR6 := hide r6
  have HR36 := hide ((unhide HR35).below hb)
  have HR46 := hide ((unhide HR45).below hb)
  have HR56 := hide ((unhide HR5).below hb)
  clear hb HK2 HB5 hr HR35 HR45 HR5
  subst h3 h4 h5 h6
  obtain ⟨a3, p3, hv3, _⟩ := r3
  obtain ⟨a4, p4, hv4, _⟩ := r4
  obtain ⟨a5, p5, hv5, _⟩ := r5
  obtain ⟨a6, p6, hv6, _⟩ := r6
  subst hv3 hv4 hv5 hv6
  generalize codeD s.data.toList = C at *
  generalize rngL s.data.toList k t = G at *
  generalize keysL s.data.toList = Q at *
  go_wp2_with fail
  refine (unhide HL _).mono ?_
  rintro e W7 ⟨rfl, hb⟩
  have HB7 := hide (belows' (unhide HB6) hb)
  have HS7 := hide (sameE_any _ _ G G W7 ((unhide HR36).below hb) ((unhide HR46).below hb))
  have HR57 := hide ((unhide HR56).below hb)
  have HR67 := hide ((unhide HR6).below hb)
  rw [decide_eq_true rfl] at HS7
  clear hb HL HB6 HR36 HR46 HR56 HR6
  have hfe : ((bts F1).toList == (bts F1).toList) = true := by simp
  go_wp2_with fail
  refine (unhide HS7).mono ?_
  rintro e W8 ⟨rfl, hb⟩
  have HB8 := hide (belows' (unhide HB7) hb)
  have HS8 := hide (sameU_any _ _ Q Q W8 ((unhide HR57).below hb) ((unhide HR67).below hb))
  rw [decide_eq_true rfl] at HS8
  clear hb HS7 HB7 HR57 HR67
  go_wp2_with fail
  refine (unhide HS8).mono ?_
  rintro e W9 ⟨rfl, hb⟩
  have HB9 := hide (belows' (unhide HB8) hb)
  clear hb HS8 HB8
  go_wp2
  go_ret
  exact ⟨by simp, unhide HB9⟩
end Go.Proofs.Ytmadjiiomjlnaaa
