import Derived.Test.YtldkecjfjcnkfaaLd
namespace Go.Proofs.Ytldkecjfjcnkfaa
open Go.RowKit Go.Deep
/-- a value that reads as a wish; what it reaches lies in blocks that meet S -/
def TV (S : Nat → Prop) (x : World) (v : Value) (d : WD) : Prop :=
  ∃ na nc ma mc es, v = .agg #[.slice na d.ns.length nc, .int .i64 d.sz, .int .i64 d.qu, .string d.ag, .slice ma es.length mc] ∧ es.map kt = d.ks ∧ RNs x (.slice na d.ns.length nc) d.ns ∧ (d.ns ≠ [] → ∀ a, na = some a → S a.block) ∧ RD S x es.length (kyG es) (dvG es) (.slice ma es.length mc) ∧ capped (.slice na d.ns.length nc) ∧ capped (.slice ma es.length mc)
theorem rd_move {S S' : Nat → Prop} {w w' : World} {dn : Nat} {ky : Nat → ByteArray} {dv : Nat → T} {y : Value} (hS : ∀ b, S b → b < w.heap.size → S' b) (hs : w.heap.size ≤ w'.heap.size) (hb : ∀ b, S b → b < w.heap.size → w'.heap[b]? = w.heap[b]?) (h : RD S w dn ky dv y) : RD S' w' dn ky dv y :=
  (RV.move (t := .mk 4 0 ⟨#[]⟩ 0 (fun _ => .no) dn ky dv) hS hs hb (.slice none 0 0) y ⟨⟨none, 0, rfl, .inl rfl⟩, h⟩).2
section
variable {S S' : Nat → Prop} {x y w : World} {v v1 v2 : Value} {d d1 d2 : WD} {N : Nat}
theorem TV.move (hS : ∀ b, S b → b < x.heap.size → S' b) (hs : x.heap.size ≤ y.heap.size) (hb : ∀ b, S b → b < x.heap.size → y.heap[b]? = x.heap[b]?) (h : TV S x v d) : TV S' y v d := by
  obtain ⟨na, nc, ma, mc, es, rfl, h1, h2, h3, h4, h5, h6⟩ := h
  obtain ⟨_, _, e, hx⟩ := h2
  cases e
  have key : d.ns = [] ∨ ∃ g o, na = some ⟨g, o, none⟩ ∧ g < x.heap.size ∧ S g ∧ ∀ i z, d.ns[i]? = some z → x.cell? ⟨g, o + i * 2, none⟩ = some (.string z.1) ∧ x.cell? ⟨g, o + i * 2 + 1, none⟩ = some (.int .i64 z.2) := by
    rcases hx with hx | ⟨g, o, e1, e2, e3⟩
    · exact .inl hx
    · by_cases hn : d.ns = []
      · exact .inl hn
      · exact .inr ⟨g, o, e1, e2, h3 hn _ e1, e3⟩
  refine ⟨na, nc, ma, mc, es, rfl, h1, ⟨na, nc, rfl, ?_⟩, fun hn a e => ?_, rd_move hS hs hb h4, h5, h6⟩
  · rcases key with hx | ⟨g, o, e1, e2, e4, e3⟩
    · exact .inl hx
    · refine .inr ⟨g, o, e1, Nat.lt_of_lt_of_le e2 hs, fun i z hz => ?_⟩
      have hg := hb g e4 e2
      exact ⟨(World.cell?_of_block (w := x) (a := ⟨g, _, none⟩) hg).trans (e3 i z hz).1, (World.cell?_of_block (w := x) (a := ⟨g, _, none⟩) hg).trans (e3 i z hz).2⟩
  · rcases key with hx | ⟨g, o, e1, e2, e4, e3⟩
    · exact absurd hx hn
    · rw [e1] at e
      cases e
      exact hS g e4 e2
theorem TV.keep (h : TV S x v d) (hb : Below x.heap.size x y) : TV (fun _ => True) y v d := h.move (fun _ _ _ => trivial) hb.size (fun b _ hl => hb.block b hl)
theorem TV.any (h : TV S x v d) : TV (fun _ => True) x v d := h.keep (Below.refl _ _)
theorem TV.form (h : TV S x v d) : ∃ na nc ma mk mc, v = .agg #[.slice na d.ns.length nc, .int .i64 d.sz, .int .i64 d.qu, .string d.ag, .slice ma mk mc] := by
  obtain ⟨na, nc, ma, mc, es, rfl, _⟩ := h
  exact ⟨_, _, _, _, _, rfl⟩
/-- bounds of a wish -/
structure WD.bd (d : WD) (N : Nat) : Prop where
  nl : d.ns.length ≤ N
  kl : d.ks.length ≤ N
  nn : ∀ x ∈ d.ns, x.1.size ≤ 140737488351232
  na : d.ag.size ≤ 140737488351232
  kk : ∀ p ∈ d.ks, p.1.size ≤ 140737488351232 ∧ p.2.ok ∧ p.2.small
theorem WD.bd.mg {M : Nat} (ha : d1.bd N) (hb : d2.bd M) : (mgD d1 d2).bd (N + M) where
  nl := Nat.le_trans (mg_len _ _ _ _) (Nat.add_le_add ha.nl hb.nl)
  kl := Nat.le_trans (mg_len _ _ _ _) (Nat.add_le_add ha.kl hb.kl)
  nn x hx := (mg_mem _ _ _ _ x hx).elim (ha.nn x) (hb.nn x)
  na := by show (orS d2.ag d1.ag).size ≤ _; unfold orS; split; exact ha.na; exact hb.na
  kk p hp := (mg_mem _ _ _ _ p hp).elim (ha.kk p) (hb.kk p)
theorem noD_bd : noD.bd 0 := ⟨Nat.le_refl _, Nat.le_refl _, fun x hx => (by cases hx), by decide, fun x hx => (by cases hx)⟩
theorem kt_mem {es : List PE} (h : es.map kt = d.ks) {e : PE} (he : e ∈ es) : (e.key, e.t) ∈ d.ks := h ▸ List.mem_map_of_mem (f := kt) he
theorem twinT (h : TV S w v d) (hb : d.bd N) (hN : N ≤ 100000000) : Calls Try.prog 15 #[v] w fun e w' => ∃ v', e = .returned v' ∧ TV (fun _ => True) w' v' d ∧ Below w.heap.size w w' := by
  obtain ⟨na, nc, ma, mc, es, rfl, h1, h2, h3, h4, h5, h6⟩ := h.any
  have hl : es.length = d.ks.length := by rw [← h1, List.length_map]
  refine (twin15 w _ d.sz d.qu d.ag _ d.ns es.length (kyG es) (dvG es) h2 (by have := hb.nl; omega) (fun i hi => ?_) (by have := hb.kl; omega) h4).mono ?_
  · rw [dvG_at hi]
    exact (hb.kk _ (kt_mem h1 (List.getElem_mem hi))).2
  · rintro e w' ⟨nv', yv', rfl, r1, r2, r3, r4, r5⟩
    obtain ⟨fs, g1, g2, -⟩ := rg_of_rd r2 r5
    obtain ⟨na', nc', rfl, -⟩ := id r1
    obtain ⟨ma', mc', rfl, -⟩ := id r2
    have hk : fs.map kt = es.map kt := kt_of_at g1 (fun i hi => g2 i (by rw [← g1]; exact hi))
    refine ⟨_, rfl, ⟨na', nc', ma', mc', fs, by rw [g1], hk.trans h1, r1, fun _ _ _ => trivial, ?_, r4, by rw [g1]; exact r5⟩, r3⟩
    rw [g1]
    exact rd_congr (RD.keep (fun _ _ => trivial) (Nat.le_refl _) (fun _ _ _ => rfl) r2) (fun i hi => ⟨(g2 i hi).1.symm, (g2 i hi).2.symm⟩)
theorem mergeT {S2 : Nat → Prop} (h1 : TV S w v1 d1) (h2 : TV S2 w v2 d2) (g1 : d1.good) (g2 : d2.good) (b1 : d1.bd N) (b2 : d2.bd N) (hN : N ≤ 100000000) :
    Calls Try.prog 22 #[v1, v2] w fun e w' => ∃ v', e = .returned v' ∧ TV (fun b => w.heap.size ≤ b) w' v' (mgD d1 d2) ∧ Below w.heap.size w w' := by
  obtain ⟨na, nc, ma, mc, es0, rfl, p1, p2, -, p4, p5, p6⟩ := h1
  obtain ⟨na2, nc2, ma2, mc2, es02, rfl, q1, q2, -, q4, q5, q6⟩ := h2
  obtain ⟨es, k1, k2, k3⟩ := rg_of_rd p4 p6
  obtain ⟨es2, l1, l2, l3⟩ := rg_of_rd q4 q6
  have e1 : es.map kt = d1.ks := (kt_of_at k1 (fun i hi => k2 i (by rw [← k1]; exact hi))).trans p1
  have e2 : es2.map kt = d2.ks := (kt_of_at l1 (fun i hi => l2 i (by rw [← l1]; exact hi))).trans q1
  have n1 : es.length = d1.ks.length := by rw [← e1, List.length_map]
  have n2 : es2.length = d2.ks.length := by rw [← e2, List.length_map]
  rw [← k1] at p6 ⊢
  rw [← l1] at q6 ⊢
  rw [← k1] at k3
  rw [← l1] at l3
  refine (Merge22 na ma na2 ma2 nc mc nc2 mc2 d1.ns d2.ns d1.sz d1.qu d2.sz d2.qu d1.ag d2.ag es es2 w p2 q2 k3 l3 p5 q5 p6 q6 (by have := b1.nl; have := b1.kl; omega) (by have := b2.nl; have := b2.kl; omega)
    ⟨b1.nn, b1.na, fun e he => ⟨(b1.kk _ (kt_mem e1 he)).1, (b1.kk _ (kt_mem e1 he)).2.1⟩⟩ ⟨b2.nn, b2.na, fun e he => ⟨(b2.kk _ (kt_mem e2 he)).1, (b2.kk _ (kt_mem e2 he)).2.1⟩⟩ (fun e he => (b1.kk _ (kt_mem e1 he)).2.2) (fun e he => (b2.kk _ (kt_mem e2 he)).2.2)).mono ?_
  rintro e w' ⟨v, rfl, hb, hv⟩
  rcases hv with ⟨hn, _⟩ | ⟨_, _, nv, s, yv, rfl, r1, r2, r3, r4, r5, r6⟩
  · exact absurd ⟨g1.gw e1, g2.gw e2⟩ hn
  · obtain ⟨ra, rc, rfl, -⟩ := id r1
    obtain ⟨ya, yc, rfl, -⟩ := id r3
    obtain rfl := str_ext r2
    refine ⟨_, rfl, ⟨ra, rc, ya, yc, mgP es es2, rfl, ?_, r1, fun _ a e => ?_, r3, r4, r5⟩, hb⟩
    · rw [mg_kt, e1, e2]; rfl
    · subst e; exact r6 a _ _ rfl
theorem sameT {S2 : Nat → Prop} (h1 : TV S w v1 d) (h2 : TV S2 w v2 d) (hb : d.bd N) (hN : N ≤ 100000000) : Calls Try.prog 20 #[v1, v2] w fun e w' => e = .returned (.bool true) ∧ Below w.heap.size w w' := by
  obtain ⟨na, nc, ma, mc, es, rfl, p1, p2, -, p4, p5, p6⟩ := h1.any
  obtain ⟨na2, nc2, ma2, mc2, es2, rfl, q1, q2, -, q4, q5, q6⟩ := h2.any
  have n1 : es.length = d.ks.length := by rw [← p1, List.length_map]
  have n2 : es2.length = es.length := by rw [n1, ← q1, List.length_map]
  rw [n2] at q4 ⊢
  exact same20 w _ _ d.sz d.qu d.ag _ _ d.ns es.length (kyG es) (dvG es) p2 q2 (by have := hb.nl; omega) (fun i hi => by rw [dvG_at hi]; exact (hb.kk _ (kt_mem p1 (List.getElem_mem hi))).2.1) (by have := hb.kl; omega) p4
    (rd_congr q4 (fun i hi => kt_at (q1.trans p1.symm) i (by rw [n2]; exact hi)))
theorem numberT (h : TV S w v d) (hb : d.bd N) (hN : N ≤ 100000000) (s : ByteArray) : Calls Try.prog 16 #[v, .string s] w fun e w' => e = .returned (.tuple #[.int .i64 (nuN d.ns s), .bool (nuF d.ns s).isSome]) ∧ Below w.heap.size w w' := by
  obtain ⟨na, nc, ma, mc, es, rfl, p1, p2, -, p4, p5, p6⟩ := h
  exact number16 w _ d.sz d.qu d.ag _ s d.ns p2 (by have := hb.nl; omega)
theorem madeT (na ma : Option Addr) (nc mc : Nat) (ns : List (ByteArray × Int)) (sz qu : Int) (ag : ByteArray) (es : List PE) (w : World) (hn : RNs w (.slice na ns.length nc) ns) (hm : RG w.heap.size w (.slice ma es.length mc) es) (hl : ns.length ≤ 1048576) (hl2 : es.length ≤ 1048576) (hok : ∀ e ∈ es, e.t.ok) :
    Calls Try.prog 21 #[.agg #[.slice na ns.length nc, .int .i64 sz, .int .i64 qu, .string ag, .slice ma es.length mc]] w fun e w' => ∃ v', e = .returned v' ∧ TV (fun _ => True) w' v' (mdD ns sz qu ag es) ∧ Below w.heap.size w w' := by
  refine (made21 na ma nc mc ns sz qu ag es w hn hm hl hl2 hok).mono ?_
  rintro e w' ⟨nv, yv, rfl, r1, r2, r3, r4, r5⟩
  obtain ⟨ra, rc, rfl, -⟩ := id r1
  obtain ⟨ya, yc, rfl, -⟩ := id r2
  exact ⟨_, rfl, ⟨ra, rc, ya, yc, mdE es, rfl, rfl, r1, fun _ _ _ => trivial, rd_of_rg r2, r3, r4⟩, r5⟩
end
theorem mdD_bd {ns : List (ByteArray × Int)} {sz qu : Int} {ag : ByteArray} {es : List PE} (hl : ns.length ≤ 1048576) (hl2 : es.length ≤ 1048576) (hn : ∀ x ∈ ns, x.1.size ≤ 140737488351232) (ha : ag.size ≤ 140737488351232) (hk : ∀ e ∈ es, e.key.size ≤ 140737488351232 ∧ e.t.ok ∧ e.t.small) : (mdD ns sz qu ag es).bd 1048576 := by
  refine ⟨?_, ?_, fun x hx => ?_, ha, fun p hp => ?_⟩
  · have := mdN_len ns []
    simp only [List.length_nil] at this
    exact Nat.le_trans (Nat.le_trans this (by omega)) hl
  · have := mdE_len es []
    simp only [List.length_nil] at this
    show ((mdE es).map kt).length ≤ _
    rw [List.length_map]
    exact Nat.le_trans (Nat.le_trans this (by omega)) hl2
  · rcases mdN_mem ns [] x hx with h | ⟨y, hy, e, _⟩
    · cases h
    · rw [e]; exact hn y hy
  · obtain ⟨e, he, rfl⟩ := List.mem_map.1 hp
    exact hk e ((mdE_mem es [] e he).resolve_left (fun h => by cases h))
end Go.Proofs.Ytldkecjfjcnkfaa
