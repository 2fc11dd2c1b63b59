import Derived.Test.YtglknmelcianjaaRb
namespace Go.Proofs.Ytglknmelcianjaa
open Go.RowKit
theorem flat3 : ∀ (ps : List (Wt × Value)) (i : Nat) (p : Wt × Value) (_ : ps[i]? = some p) (j : Nat) (_ : j < 3), (ps.flatMap uc)[i * 3 + j]? = (uc p)[j]?
  | [], i, p, h, _, _ => by simp at h
  | x :: ps, 0, p, h, j, hj => by
    simp at h
    subst h
    rw [List.flatMap_cons, List.getElem?_append_left (by show _ < 3; omega), Nat.zero_mul, Nat.zero_add]
  | x :: ps, i + 1, p, h, j, hj => by
    have hl : (uc x).length = 3 := rfl
    rw [List.flatMap_cons, List.getElem?_append_right (by rw [hl]; omega), hl, show (i + 1) * 3 + j - 3 = i * 3 + j by omega]
    exact flat3 ps i p (by simpa using h) j hj
theorem flat3_len : ∀ (ps : List (Wt × Value)), (ps.flatMap uc).length = ps.length * 3
  | [] => rfl
  | x :: ps => by
    rw [List.flatMap_cons, List.length_append, flat3_len ps, List.length_cons]
    have : (uc x).length = 3 := rfl
    omega
/-- a write of the reference's list -/
theorem RI.at {S : Nat → Prop} {w : World} {q lb cap : Nat} {wv : Value} {ps : List (Wt × Value)} {lf : Int} {D : Dk} (h : RI S w q lb cap wv ps lf D) {i : Nat} {p : Wt × Value} (hp : ps[i]? = some p) :
    ∃ gw c, wv = .slice (some ⟨gw, 0, none⟩) ps.length c ∧ w.rangeAt gw (i * 3) (uc p) := by
  have hi := (List.getElem?_eq_some_iff.1 hp).1
  have hrow := h.row
  rcases h.row.2 with ⟨_, h0⟩ | ⟨gw, c, cur, rfl, _, h3, _⟩
  · omega
  refine ⟨gw, c, rfl, fun j v hj => ?_⟩
  have hj' : j < 3 := (List.getElem?_eq_some_iff.1 hj).1
  have hlt : i * 3 + j < ps.length * 3 := by omega
  have e := World.ownsRow.cellAt hrow (i * 3 + j) hlt
  rw [e, flat3 ps i p hp j hj']
  exact hj
theorem rangeC {w : World} {g o : Nat} {p : Wt × Value} (h : w.rangeAt g o (uc p)) : w.cell? ⟨g, o, none⟩ = some (.int .i64 (p.1.at_ : Int)) ∧ w.cell? ⟨g, o + 1, none⟩ = some p.2 ∧ w.cell? ⟨g, o + 2, none⟩ = some (.bool p.1.dead) :=
  ⟨h 0 _ rfl, h 1 _ rfl, h 2 _ rfl⟩
theorem RB.sec {w : World} {lb cap : Nat} {l : List UInt8} (h : RB w (.slice (some ⟨lb, 0, none⟩) l.length cap) l) (s : Nat) (hs : 64 * s + 64 ≤ l.length) : RB w (.slice (some ⟨lb, s * 64, none⟩) 64 (cap - s * 64)) (sec l s) := by
  obtain ⟨a, c, e, hle, h⟩ := h
  simp only [Value.slice.injEq, true_and] at e
  obtain ⟨rfl, rfl⟩ := e
  have hl := sec_len l s hs
  refine ⟨_, _, by rw [hl], by rw [hl]; omega, .inr ⟨lb, s * 64, rfl, ?_, fun i hi => ?_⟩⟩
  · rcases h with rfl | ⟨g, o, e, hlt, _⟩
    · simp at hs
    · simp only [Option.some.injEq, Addr.mk.injEq] at e
      rw [e.1]; exact hlt
  · rw [hl] at hi
    rcases h with rfl | ⟨g, o, e, hlt, h⟩
    · simp at hs
    · simp only [Option.some.injEq, Addr.mk.injEq] at e
      obtain ⟨rfl, rfl, _⟩ := e
      have := h (64 * s + i) (by omega)
      rw [sec_byt _ _ _ hi, show s * 64 + i = 0 + (64 * s + i) by omega]
      exact this
set_option maxHeartbeats 1000000 in
set_option maxRecDepth 100000 in
/-- what the reference reads of a sector -/
theorem seenT {S : Nat → Prop} {w : World} {q lb cap : Nat} {wv : Value} {ps : List (Wt × Value)} {lf : Int} {D : Dk} (h : RI S w q lb cap wv ps lf D) (s : Nat) (hs : 64 * s + 64 ≤ D.last.length) (hn : ps.length ≤ 1073741824) :
    Calls Try.prog 40 #[.pointer (some ⟨q, 0, none⟩), .int .i64 s] w fun e w' => ∃ v, e = .returned v ∧ OW w.heap.size w' v (seen D s) ∧ Below w.heap.size w w' := by
  have H : Hid (RI S w q lb cap wv ps lf D) := h
  have c0 := h.c0
  have c1 := h.c1
  obtain ⟨wa, wc', hwv⟩ := h.wform
  rw [hwv] at c1
  have HWV := Lib.hid hwv
  have hmax := h.gd.max
  have HSec : Hid (RB w (.slice (some ⟨lb, s * 64, none⟩) 64 (cap - s * 64)) (sec D.last s) ∧ (sec D.last s).length = 64) := ⟨RB.sec h.las.rb s hs, sec_len _ _ hs⟩
  have hcap : D.last.length ≤ cap := by
    obtain ⟨_, _, e, hle, _⟩ := h.las.rb
    simp only [Value.slice.injEq, true_and] at e
    omega
  have hm1 : IntKind.i64.wrap ((s : Int) * 64) = ((s * 64 : Nat) : Int) := by
    rw [show (s : Int) * 64 = ((s * 64 : Nat) : Int) by omega]
    exact IntWalk.i64_in _ (by omega)
  have hm2 : IntKind.i64.wrap ((s : Int) + 1) = ((s + 1 : Nat) : Int) := by
    rw [show (s : Int) + 1 = ((s + 1 : Nat) : Int) by omega]
    exact IntWalk.i64_in _ (by omega)
  have hm3 : IntKind.i64.wrap (((s + 1 : Nat) : Int) * 64) = ((s * 64 + 64 : Nat) : Int) := by
    rw [show ((s + 1 : Nat) : Int) * 64 = ((s * 64 + 64 : Nat) : Int) by omega]
    exact IntWalk.i64_in _ (by omega)
  have hm4 : IntKind.i64.wrap ((ps.length : Int) - 1) = (ps.length : Int) - 1 := IntWalk.i64_in _ (by omega)
  have HWS := Lib.hid h.ws
  generalize hpn : ps.length = n at *
  have HPN := Lib.hid hpn
  generalize hll : D.last.length = ll at *
  have HLL := Lib.hid hll
  clear h hwv hpn hll
  go_enter Try.func40, Try.ntmps40
  go_wp2_with fail
  go_loopw [5] (fun t wr => ∃ z : Int, t = .int .i64 z ∧ -1 ≤ z ∧ z < n ∧ Hid (nw s (D.ws.drop (z + 1).toNat) = none) ∧ w = wr) (fun t _ => ((intOf t) + 1).toNat)
  case atStart =>
    refine ⟨(n : Int) - 1, rfl, by omega, by omega, ?_, rfl⟩
    show nw s _ = none
    rw [List.drop_eq_nil_of_le (by rw [HWS.out, List.length_map, HPN.out]; omega)]
    rfl
  case round =>
    obtain ⟨z, rfl, z0, z1, HZ, rfl⟩ := hrel
    by_cases hz : 0 ≤ z
    · obtain ⟨i, rfl⟩ : ∃ i : Nat, z = (i : Int) := ⟨z.toNat, by omega⟩
      have hi : i < ps.length := by rw [HPN.out]; omega
      obtain ⟨p, hp⟩ : ∃ p, ps[i]? = some p := ⟨_, List.getElem?_eq_getElem hi⟩
      obtain ⟨gw, c, hwv, hrg⟩ := H.out.at hp
      have hwv2 := HWV.out
      rw [hwv] at hwv2
      simp only [Value.slice.injEq] at hwv2
      obtain ⟨rfl, -, rfl⟩ := hwv2
      obtain ⟨k0, k1, -⟩ := rangeC hrg
      have hin : i < n := by rw [← HPN.out]; exact hi
      have hws : D.ws[i]? = some p.1 := by rw [HWS.out, List.getElem?_map, hp]; rfl
      have hdr : D.ws.drop i = p.1 :: D.ws.drop (i + 1) := by
        obtain ⟨h1, h2⟩ := List.getElem?_eq_some_iff.1 hws
        rw [← h2]
        exact List.drop_eq_getElem_cons h1
      have hzz := HZ.out
      rw [show ((i : Int) + 1).toNat = i + 1 by omega] at hzz
      obtain ⟨da, dc, hdv⟩ := (H.out.dat p (List.mem_of_getElem? hp)).1.form
      have HDat := Lib.hid (H.out.dat p (List.mem_of_getElem? hp)).1
      by_cases he : p.1.at_ = s
      · have hsn : seen D s = p.1.data := by
          unfold seen
          have : nw s D.ws = some p.1.data := by
            rw [← List.take_append_drop i D.ws, nw_app, hdr]
            simp only [nw, hzz, he, if_true]
            rfl
          rw [this]
          rfl
        have hdl : p.1.data.length = 64 := (H.out.gd.ws p.1 (by rw [HWS.out]; exact List.mem_map.2 ⟨p, List.mem_of_getElem? hp, rfl⟩)).2
        have HSN := Lib.hid hsn
        clear hsn
        rw [hdv] at k1 HDat
        have HBo := Lib.hid (bytesOf _ p.1.data w HDat.out.rb (by omega))
        have heq : ((p.1.at_ : Int) == (s : Int)) = true := by simp [he]
        rw [he] at k0
        clear hrg hdr hzz hws heq HZ hdl
        go_wp2_with fail
        refine HBo.out.mono ?_
        rintro e w2 ⟨v2, rfl, o2, b2⟩
        obtain ⟨a2, c2, rfl⟩ := o2.form
        have HE := Lib.hid (And.intro o2 b2)
        clear o2 b2
        go_wp2
        go_ret
        exact ⟨_, rfl, by rw [HSN.out]; exact HE.out.1, HE.out.2⟩
      · have heq : ((p.1.at_ : Int) == (s : Int)) = false := by simp; omega
        have HZ2 : Hid (nw s (D.ws.drop (((i : Int) - 1) + 1).toNat) = none) := by
          show nw s _ = none
          rw [show ((i : Int) - 1 + 1).toNat = i by omega, hdr]
          simp only [nw, hzz, he, if_false]
        have hw1 : IntKind.i64.wrap ((i : Int) - 1) = (i : Int) - 1 := IntWalk.i64_in _ (by omega)
        generalize (p.1.at_ : Int) = pat at *
        clear hrg hdr hzz hws he
        go_wp2
        exact ⟨⟨(i : Int) - 1, rfl, by omega, by omega, HZ2, by first | rfl | trivial⟩, by simp [intOf] <;> omega⟩
    · have hz1 : z = -1 := by omega
      subst hz1
      have hsn : seen D s = sec D.last s := by
        have := HZ.out
        unfold seen
        rw [show ((-1 : Int) + 1).toNat = 0 by rfl, List.drop_zero] at this
        rw [this]
        rfl
      have HSN := Lib.hid hsn
      clear hsn
      have HBo := Lib.hid (bytesOf _ (sec D.last s) w HSec.out.1 (by rw [HSec.out.2]; omega))
      have t1 : ¬ cap < s * 64 + 64 := by omega
      have t2 : ¬ s * 64 + 64 < s * 64 := by omega
      have t3 : ¬ cap = s * 64 := by omega
      have t4 : s * 64 + 64 - s * 64 = 64 := by omega
      have t5 : (s + 1) * 64 - s * 64 = 64 := by omega
      generalize hsl : s * 64 = s64 at *
      clear HZ
      go_wp2_with fail
      refine HBo.out.mono ?_
      rintro e w2 ⟨v2, rfl, o2, b2⟩
      obtain ⟨a2, c2, rfl⟩ := o2.form
      have HE := Lib.hid (And.intro o2 b2)
      clear o2 b2
      go_wp2
      go_ret
      exact ⟨_, rfl, by rw [HSN.out]; exact HE.out.1, HE.out.2⟩
end Go.Proofs.Ytglknmelcianjaa
