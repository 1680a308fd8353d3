/-
  What dict.open does, over this seat's program.
-/
import Derived.Test.YtfjjigcghhohkaaDeb
set_option linter.unusedVariables false
namespace Go.Proofs.Ytfjjigcghhohkaa
open Go.RowKit Go.Proofs.Num Go.Proofs.Dct

/-- An entry that is whole. -/
def ent1 (e : EntL) : Ent3 := (e.1, bts e.2, e.2.length)
/-- Some entries whole, the others not yet. -/
def rowAt (hs : List (Nat × Nat)) (done : List EntL) : List Ent3 := done.map ent1 ++ (hs.drop done.length).map ent0
theorem rowAt_len {hs : List (Nat × Nat)} {done : List EntL} (h : done.length ≤ hs.length) : (rowAt hs done).length = hs.length := by simp [rowAt]; omega
theorem rowAt_at {hs : List (Nat × Nat)} {done : List EntL} (h : done.length < hs.length) : (rowAt hs done)[done.length]'(by rw [rowAt_len (by omega)]; exact h) = ent0 hs[done.length] := by
  unfold rowAt
  rw [List.getElem_append_right (by simp)]
  simp
theorem rowAt_set {hs : List (Nat × Nat)} {done : List EntL} (h : done.length < hs.length) (e : EntL) : (rowAt hs done).set done.length (ent1 e) = rowAt hs (done ++ [e]) := by
  unfold rowAt
  rw [List.set_append_right _ _ (by simp), List.length_map, Nat.sub_self, List.drop_eq_getElem_cons h, List.map_cons, List.set_cons_zero]
  simp
theorem rowAt_all {hs : List (Nat × Nat)} {done : List EntL} (h : hs.length ≤ done.length) : rowAt hs done = done.map ent1 := by
  unfold rowAt
  rw [List.drop_of_length_le h]
  simp

def OpI (s : ByteArray) (B : Nat) (w' : World) (v : Value) (p c : Nat) : Prop :=
  match readD s.data.toList with
  | .error e => v = .slice none 0 0 ∧ p = 0 ∧ c = e
  | .ok (l, q) => w'.ownsRow B 82 3 v (l.map ent1).length (flatG cells3 (l.map ent1)) ∧ p = q ∧ c = 0
theorem opI_err {s : ByteArray} {e : Nat} (h : readD s.data.toList = .error e) (B : Nat) (w' : World) : OpI s B w' (.slice none 0 0) 0 e := by
  unfold OpI; rw [h]; exact ⟨rfl, rfl, rfl⟩
theorem opI_ok {s : ByteArray} {l : List EntL} {q : Nat} (h : readD s.data.toList = .ok (l, q)) {B : Nat} {w' : World} {v : Value} (ho : w'.ownsRow B 82 3 v (l.map ent1).length (flatG cells3 (l.map ent1))) : OpI s B w' v q 0 := by
  unfold OpI; rw [h]; exact ⟨ho, rfl, rfl⟩

set_option maxHeartbeats 2000000 in
set_option maxRecDepth 100000 in
theorem open_any (s : ByteArray) (w : World) (hs : s.size ≤ 140737488355328) :
    Calls Try.prog 29 #[.string s] w fun e w' => ∃ v, ∃ p c : Nat, e = .returned (.tuple #[v, .int .i64 p, .int .i64 c]) ∧ OpI s w.heap.size w' v p c ∧ Below w.heap.size w w' := by
  have HR0 := hide (rds_any s w hs)
  go_enter Try.func29, Try.ntmps29
  go_wp2_with fail
  refine (unhide HR0).mono ?_
  rintro e w1 ⟨v, p, c, rfl, hr, hb1⟩
  unfold RdE at hr
  cases hE : readE s.data.toList with
  | error e =>
    rw [hE] at hr
    obtain ⟨rfl, rfl, rfl⟩ := hr
    have hc := readE_err_code hE
    have hfin : readD s.data.toList = .error c := by unfold readD; rw [hE]
    have hne : ((c : Int) == 0) = false := by simp; omega
    have HF := hide hfin
    clear hfin hE hc HR0
    go_wp2
    go_ret3
    exact ⟨_, 0, c, rfl, opI_err (unhide HF) _ _, hb1⟩
  | ok x =>
    obtain ⟨ts, q⟩ := x
    rw [hE] at hr
    obtain ⟨hown, rfl, rfl⟩ := hr
    have hok := readE_ok hE
    rw [sizeL] at hok
    have hfin : readD s.data.toList = match readTF s.data.toList ts [] p with
        | none => .error 5
        | some x => .ok x := by unfold readD; rw [hE]; rfl
    have HF := hide hfin
    have hlen : ts.length ≤ 65536 := hok.1
    have hpp : p ≤ s.size := hok.2.2.2.2.1
    have HB1 := hide hb1
    rw [map_len0] at hown
    obtain ⟨ad, cap, hv, hcap⟩ := own_sliceG hown
    subst hv
    have HO : Hid (w1.ownsRow w.heap.size 82 3 (.slice ad ts.length cap) ts.length (flatG cells3 (rowAt ts []))) := hide (by simpa [rowAt] using hown)
    have HT := hide hok.2.2.1
    clear hfin hE hok hown hb1 HR0
    obtain ⟨T, hT⟩ : ∃ T, T = ts.length := ⟨_, rfl⟩
    rw [← hT] at HO hlen hcap ⊢
    have HTL := hide hT
    clear hT
    go_wp2
    go_loopw [6, 8, 9, 21] (fun xa xi xe z wr => ∃ (k q : Nat) (done : List EntL), z = .int .i64 k ∧ xa = .int .i64 q ∧ k ≤ T ∧ q ≤ s.size ∧ Hid (done.length = k) ∧ Hid (wr.ownsRow w.heap.size 82 3 (.slice ad T cap) T (flatG cells3 (rowAt ts done))) ∧ Hid (readTF s.data.toList (ts.drop k) done q = readTF s.data.toList ts [] p) ∧ Hid (Below w.heap.size w wr)) (fun _ _ _ z _ => T - (intOf z).toNat)
    case atStart => exact ⟨0, p, [], rfl, rfl, Nat.zero_le _, hpp, hide rfl, HO, hide (by simp), HB1⟩
    case round =>
      obtain ⟨k, q, done, rfl, rfl, hk, hq, HD, HOk, HA, HB⟩ := hrel
      by_cases hlt : k < T
      · have hlt1 : (k : Int) < (T : Int) := by omega
        have hlt2 : k < ts.length := by have := unhide HTL; omega
        have hdl := unhide HD
        have hrl : (rowAt ts done).length = T := by rw [rowAt_len (by omega), unhide HTL]
        obtain ⟨g, cap', hv', hBg, hglt, hcell, hfz⟩ := ownG_at cells3_len (c := cells3) (by rw [hrl]; exact unhide HOk) (j := k) (by omega)
        injection hv' with e1 e2 e3
        subst e1
        have hget : (rowAt ts done)[k]'(by omega) = ent0 ts[k] := by
          subst hdl
          exact rowAt_at hlt2
        rw [hget] at hcell
        have c2 := hcell 2 (by omega)
        have c1 := hcell 1 (by omega)
        have f1 := hfz (k * 3 + 1)
        have hA := unhide HA
        rw [List.drop_eq_getElem_cons hlt2] at hA
        have hnb := (unhide HT ts[k] (List.getElem_mem hlt2)).2
        obtain ⟨ky, hky⟩ : ∃ ky, ky = (ts[k]).1 := ⟨_, rfl⟩
        obtain ⟨n, hn⟩ : ∃ n, n = (ts[k]).2 := ⟨_, rfl⟩
        have hpair : ts[k] = (ky, n) := by rw [hky, hn]
        rw [hpair] at hA hnb hcell c2 c1 hget
        simp only [cells3, ent0, List.getElem?_cons_succ, List.getElem?_cons_zero] at c2 c1
        simp only [readTF, sizeL] at hA
        simp only at hnb
        have hnbi : (n : Int) ≤ 18446744073709551615 := by omega
        by_cases hbig : s.size - q < n
        · rw [if_pos hbig] at hA
          have hfin : readD s.data.toList = .error 5 := by rw [unhide HF, ← hA]
          have HFF := hide hfin
          have hbi : (s.size : Int) - (q : Int) < (n : Int) := by omega
          clear hA hfin hnb hcell hfz hget hdl hrl hpair hky hn HA HD HOk e2 e3 f1 c1 hbig
          go_wp2
          go_ret3
          exact ⟨_, 0, 5, rfl, opI_err (unhide HFF) _ _, unhide HB⟩
        · rw [if_neg hbig] at hA
          have hbi : ¬ (s.size : Int) - (q : Int) < (n : Int) := by omega
          have hext : s.extract q (q + n) = bts ((s.data.toList.drop q).take n) := by
            apply ext_list
            rw [toList_bts, toList_part, show q + n - q = n by omega]
          have hel : ((s.data.toList.drop q).take n).length = n := by rw [List.length_take, List.length_drop, sizeL]; omega
          have hsl := slice_km s q n (by omega)
          have hst := (show wr.ownsRow w.heap.size 82 3 (.slice (some ⟨g, 0, none⟩) T cap) T (flatG cells3 (rowAt ts done)) from unhide HOk).stored (k * 3 + 1) (.string (s.extract q (q + n)))
          have hst1 := hst.1
          rw [flatG_set cells3_len (rowAt ts done) k (by omega) (ent1 (ky, (s.data.toList.drop q).take n)) 1 (by omega) (.string (s.extract q (q + n))) (by rw [hget, hext]; simp [cells3, ent1, ent0, hel])] at hst1
          have hset : (rowAt ts done).set k (ent1 (ky, (s.data.toList.drop q).take n)) = rowAt ts (done ++ [(ky, (s.data.toList.drop q).take n)]) := by
            subst hdl
            exact rowAt_set hlt2 _
          rw [hset] at hst1
          have HO9 := hide hst1
          have HB9 := hide ((unhide HB).setCell (p := ⟨g, k * 3 + 1, none⟩) hBg (.string (s.extract q (q + n))))
          have HA9 := hide hA
          have HD9 : Hid ((done ++ [(ky, (s.data.toList.drop q).take n)]).length = k + 1) := hide (by simp [hdl])
          have hqn : (q : Int) + (n : Int) ≤ 140737488355328 := by omega
          have hqz : q + n ≤ s.size := by omega
          generalize s.extract q (q + n) = X at hsl HO9 HB9
          clear hA hnb hcell hfz hget hdl hrl hpair hky hn HA HD HOk e2 e3 hst hst1 hset hext hel hbig HB
          go_wp2
          exact ⟨⟨k + 1, q + n, done ++ [(ky, (s.data.toList.drop q).take n)], by go_num, by go_num, by omega, by omega, HD9, HO9, HA9, HB9⟩, by simp [intOf]; omega⟩
      · have hlt1 : ¬ (k : Int) < (T : Int) := by omega
        have hfin : readD s.data.toList = .ok (done, q) := by
          rw [unhide HF, ← unhide HA, List.drop_of_length_le (by have := unhide HTL; omega), readTF]
        have HFF := hide hfin
        have hown2 := unhide HOk
        rw [rowAt_all (by have h1 := unhide HTL; have h2 := unhide HD; omega)] at hown2
        have hT2 : T = (done.map ent1).length := by have h2 := unhide HD; simp; omega
        rw [hT2] at hown2
        have HOO : Hid (wr.ownsRow w.heap.size 82 3 (.slice ad T cap) (done.map ent1).length (flatG cells3 (done.map ent1))) := hide (by rw [hT2]; exact hown2)
        clear hfin hown2 hT2 HA HOk HD
        go_wp2
        go_ret3
        exact ⟨_, q, 0, rfl, opI_ok (unhide HFF) (unhide HOO), unhide HB⟩
end Go.Proofs.Ytfjjigcghhohkaa
