import Derived.Test.YtldkecjfjcnkfaaGg
namespace Go.Proofs.Ytldkecjfjcnkfaa
open Go.RowKit Go.Deep
theorem GR_lt {B A : Nat} {w : World} {v : Value} {es : List PE} {g l c : Nat} (h : GR B A w v es) (hv : v = .slice (some ⟨g, 0, none⟩) l c) : g < w.heap.size := by
  rcases h.1.2 with ⟨rfl, _⟩ | ⟨gg, cap, cur, e1, e2, e3, e4⟩
  · cases hv
  · rw [e1] at hv
    cases hv
    exact (Array.getElem?_eq_some_iff.1 e3).1
theorem GR_ge {B A : Nat} {w : World} {v : Value} {es : List PE} {g l c : Nat} (h : GR B A w v es) (hv : v = .slice (some ⟨g, 0, none⟩) l c) : B ≤ g := by
  rcases h.1.2 with ⟨rfl, _⟩ | ⟨gg, cap, cur, e1, e2, e3, e4⟩
  · cases hv
  · rw [e1] at hv
    cases hv
    exact e2
theorem rd_keep {S S' : Nat → Prop} {w w' : World} {dn : Nat} {ky : Nat → ByteArray} {dv : Nat → T} {y : Value} (hb : Below w.heap.size w w') (hS : ∀ b, S b → S' b) (h : RD S w dn ky dv y) : RD S' w' dn ky dv y :=
  (RV.keep (t := .mk 4 0 ⟨#[]⟩ 0 (fun _ => .no) dn ky dv) (x := .slice none 0 0) (y := y) hS hb.size (fun b _ hl => hb.block b hl) ⟨⟨none, 0, rfl, .inl rfl⟩, h⟩).2
theorem rd_besides {g : Nat} {w w' : World} {dn : Nat} {ky : Nat → ByteArray} {dv : Nat → T} {y : Value} (hb : Besides g w w') (h : RD (fun b => b ≠ g) w dn ky dv y) : RD (fun _ => True) w' dn ky dv y :=
  (RV.keep (t := .mk 4 0 ⟨#[]⟩ 0 (fun _ => .no) dn ky dv) (x := .slice none 0 0) (y := y) (fun _ _ => trivial) hb.size (fun b hne hl => hb.block b hl hne) ⟨⟨none, 0, rfl, .inl rfl⟩, h⟩).2
/-- the dictionary behind the store -/
def WF46 (w0 wF : World) (H da : Nat) (na ma : Option Addr) (nc mc : Nat) (ns : List (ByteArray × Int)) (sz qu : Int) (ag : ByteArray) (es os es' : List PE) (va : Option Addr) (vc : Nat) : Prop :=
  LD es os es' ∧ RD (fun b => b ≠ H + 1) wF es'.length (kyG es') (dvG es') (.slice va es'.length vc) ∧ BoxC H wF na ma nc mc ns.length es.length sz qu ag ∧ Below w0.heap.size w0 wF ∧
  wF.heap[da]? = some (.cells #[.int .i64 4, .int .i64 0, .string ⟨#[]⟩, .slice none 0 0, .slice va es'.length vc] 56 (0, 0)) ∧ w0.heap.size ≤ da
theorem WF46.of {w0 wE : World} {H da B A : Nat} {na ma : Option Addr} {nc mc : Nat} {ns : List (ByteArray × Int)} {sz qu : Int} {ag : ByteArray} {ab : Bool} {es es' : List PE} {va ya : Option Addr} {vc yc : Nat}
    (hwz : WB H w0 na ma nc mc ns sz qu ag es) (hb : Below w0.heap.size w0 wE) (had : wE.heap[da]? = some (.cells #[.int .i64 0, .int .i64 0, .string ⟨#[]⟩, .slice none 0 0, .slice none 0 0] 56 (0, 0)) ∧ w0.heap.size ≤ da)
    (hdg : LD es (ownQ ns sz qu ag ab (.slice ya ns.length yc)) es' ∧ GR B A wE (.slice va es'.length vc) es' ∧ (∀ g l c, Value.slice va es'.length vc = .slice (some ⟨g, 0, none⟩) l c → g ≠ da) ∧ H + 2 ≤ B) (hvn : RV (fun b => b ≠ da ∧ b ≠ H + 1) wE (tG (nE ns)) (.slice none 0 0) (.slice ya ns.length yc)) :
    WF46 w0 (((((wE.setCell ⟨da, 0, none⟩ (.int .i64 4)).setCell ⟨da, 1, none⟩ (.int .i64 0)).setCell ⟨da, 2, none⟩ (.string ⟨#[]⟩)).setCell ⟨da, 3, none⟩ (.slice none 0 0)).setCell ⟨da, 4, none⟩ (.slice va es'.length vc)) H da na ma nc mc ns sz qu ag es (ownQ ns sz qu ag ab (.slice ya ns.length yc)) es' va vc := by
  have wbE := hwz.keep hb
  have hbs := besides5 wE da (.int .i64 4) (.int .i64 0) (.string ⟨#[]⟩) (.slice none 0 0) (.slice va es'.length vc)
  have hz := hwz.2.2.1
  have hz2 := had.2
  refine ⟨hdg.1, fin46 (H1 := H + 1) hdg.2.1 (by have := hdg.2.2.2; omega) hdg.2.2.1 (fun e he => ?_) hbs, ?_, ?_, ?_, had.2⟩
  · rcases hdg.1.mem e he with h | h
    · exact RV.keep (fun b hb => ⟨by omega, by omega⟩) (Nat.le_refl _) (fun _ _ _ => rfl) _ _ _ (wbE.2.2.2.2.rv e h)
    · exact own_rv hvn e h
  · have e := (hbs.block H (by have := wbE.2.2.1; omega) (by omega)).trans wbE.1
    refine ⟨?_, ?_, ?_, ?_, ?_⟩ <;> simp only [World.cell?, e] <;> simp
  · exact below5 hb had.2 _ _ _ _ _
  · exact ow.set (ow.set (ow.set (ow.set (ow.set had.1 0 _) 1 _) 2 _) 3 _) 4 _
set_option maxHeartbeats 16000000 in
set_option maxRecDepth 100000 in
theorem wishDict_yes (na ma : Option Addr) (nc mc : Nat) (ns : List (ByteArray × Int)) (sz qu : Int) (ag : ByteArray) (es : List PE) (w : World) (hn : RNs w (.slice na ns.length nc) ns) (hm : RG w.heap.size w (.slice ma es.length mc) es) (hl : ns.length + es.length ≤ 2147483000) (hb : wsB ns sz qu es = true)
    (hkn : ∀ x ∈ ns, x.1.size ≤ 140737488351232) (hka : ag.size ≤ 140737488351232) (hke : ∀ e ∈ es, e.key.size ≤ 140737488351232 ∧ e.t.ok) :
    Calls Try.prog 46 #[.agg #[.slice na ns.length nc, .int .i64 sz, .int .i64 qu, .string ag, .slice ma es.length mc]] w fun e w' => ∃ yv v' es', e = .returned (.tuple #[.agg #[.int .i64 4, .int .i64 0, .string ⟨#[]⟩, .slice none 0 0, v'], .bool (wk (tG es') 0 == 0)]) ∧ LD es (ownP ns sz qu ag yv) es' ∧ RV (fun _ => True) w' (tG es') (.slice none 0 0) v' ∧ Below w.heap.size w w' := by
  obtain ⟨wb0, b0⟩ := WB.start na ma nc mc ns sz qu ag es w hn hm
  have HK : Hid (∀ w', Below ((w.alloc (.cells #[.slice na ns.length nc, .int .i64 sz, .int .i64 qu, .string ag, .slice ma es.length mc] 35)).alloc (.cells #[.int .i64 0, .int .i64 0, .string ⟨#[]⟩, .slice none 0 0, .slice none 0 0] 56)).heap.size ((w.alloc (.cells #[.slice na ns.length nc, .int .i64 sz, .int .i64 qu, .string ag, .slice ma es.length mc] 35)).alloc (.cells #[.int .i64 0, .int .i64 0, .string ⟨#[]⟩, .slice none 0 0, .slice none 0 0] 56)) w' → WB w.heap.size w' na ma nc mc ns sz qu ag es) := fun w' hw => wb0.keep hw
  have HB0 : Hid (Below w.heap.size w ((w.alloc (.cells #[.slice na ns.length nc, .int .i64 sz, .int .i64 qu, .string ag, .slice ma es.length mc] 35)).alloc (.cells #[.int .i64 0, .int .i64 0, .string ⟨#[]⟩, .slice none 0 0, .slice none 0 0] 56))) := b0
  have HWZ : Hid (WB w.heap.size ((w.alloc (.cells #[.slice na ns.length nc, .int .i64 sz, .int .i64 qu, .string ag, .slice ma es.length mc] 35)).alloc (.cells #[.int .i64 0, .int .i64 0, .string ⟨#[]⟩, .slice none 0 0, .slice none 0 0] 56)) na ma nc mc ns sz qu ag es) := wb0
  clear wb0 b0 hn hm
  have HC1 : Hid (∀ w', Below ((w.alloc (.cells #[.slice na ns.length nc, .int .i64 sz, .int .i64 qu, .string ag, .slice ma es.length mc] 35)).alloc (.cells #[.int .i64 0, .int .i64 0, .string ⟨#[]⟩, .slice none 0 0, .slice none 0 0] 56)).heap.size ((w.alloc (.cells #[.slice na ns.length nc, .int .i64 sz, .int .i64 qu, .string ag, .slice ma es.length mc] 35)).alloc (.cells #[.int .i64 0, .int .i64 0, .string ⟨#[]⟩, .slice none 0 0, .slice none 0 0] 56)) w' → Calls Try.prog 53 #[.slice na ns.length nc, .func (Fn.func 54) #[] #[]] w' fun en w'' => en = .returned (.bool (ns.any (fun x => !idB x.2))) ∧ Below w'.heap.size w' w'') := fun w' hw => contains53 _ ns w' (HK.out w' hw).2.2.2.1 (by omega)
  have HC2 : Hid (∀ w', Below ((w.alloc (.cells #[.slice na ns.length nc, .int .i64 sz, .int .i64 qu, .string ag, .slice ma es.length mc] 35)).alloc (.cells #[.int .i64 0, .int .i64 0, .string ⟨#[]⟩, .slice none 0 0, .slice none 0 0] 56)).heap.size ((w.alloc (.cells #[.slice na ns.length nc, .int .i64 sz, .int .i64 qu, .string ag, .slice ma es.length mc] 35)).alloc (.cells #[.int .i64 0, .int .i64 0, .string ⟨#[]⟩, .slice none 0 0, .slice none 0 0] 56)) w' → Calls Try.prog 55 #[.slice ma es.length mc, .func (Fn.func 56) #[] #[]] w' fun en w'' => en = .returned (.bool (es.any (fun e => owB e.key))) ∧ Below w'.heap.size w' w'') := fun w' hw => contains55 _ _ es w' (HK.out w' hw).2.2.2.2 (by omega)
  obtain ⟨x0, x1, x2, x3, x4⟩ := HWZ.out.box
  go_enter Try.func46, Try.ntmps46
  go_upto_region 1 with fail
  generalize ((w.alloc (.cells #[.slice na ns.length nc, .int .i64 sz, .int .i64 qu, .string ag, .slice ma es.length mc] 35)).alloc (.cells #[.int .i64 0, .int .i64 0, .string ⟨#[]⟩, .slice none 0 0, .slice none 0 0] 56)) = w0 at *
  generalize hvb : w.heap.size = H at *
  have HS := Lib.hid hvb
  clear hvb
  have hbb : (0 ≤ sz ∧ sz ≤ 1048576 ∧ 0 ≤ qu) ∧ (ns.any fun x => !idB x.2) = false ∧ (es.any fun e => owB e.key) = false := by
    unfold wsB at hb
    simp only [Bool.and_eq_true, decide_eq_true_eq, Bool.not_eq_true'] at hb
    exact ⟨⟨hb.1, hb.2.1, hb.2.2.1⟩, hb.2.2.2.1, hb.2.2.2.2⟩
  obtain ⟨⟨c1, c2, c3⟩, hq1, hq2⟩ := hbb
  have h1 : ¬ sz < 0 := by omega
  have h2 : ¬ 1048576 < sz := by omega
  have h3 : ¬ qu < 0 := by omega
  clear hb c1 c2 c3
  go_wp2_with fail
  refine (HC1.out w0 (Below.refl _ _)).mono ?_
  rintro e w1 ⟨rfl, b1⟩
  have BW1 : Hid (Below w0.heap.size w0 w1) := b1
  rw [hq1]
  clear b1 x0 x1 x2 x3 x4 HC1 hq1
  obtain ⟨x0, x1, x2, x3, x4⟩ := (HK.out w1 BW1.out).box
  go_wp2_with fail
  refine (HC2.out w1 BW1.out).mono ?_
  rintro e w2 ⟨rfl, b2⟩
  have BD : Hid (Below w0.heap.size w0 w2.drew) := (BW1.out.trans (b2.mono BW1.out.size)).trans ((belowDrew1 w2).mono (Nat.le_trans BW1.out.size b2.size))
  rw [hq2]
  clear b2 x0 x1 x2 x3 x4 HC2 hq2 BW1
  go_upto_region 3 with fail
  obtain ⟨ab, hab⟩ : ∃ ab : Bool, ab = (!ag.toList == []) := ⟨_, rfl⟩
  have HAB : Hid (ab = (!ag.toList == [])) := hab
  clear hab
  refine wp_region_held_drew (S := fun x => BoxC H x na ma nc mc ns.length es.length sz qu ag) (by kernel_rfl) ((HK.out _ BD.out).box) (fun hHeld => ?_)
  generalize w2.drew = wd at *
  have BW : Hid (Below w0.heap.size w0 wd) := BD.out
  clear BD
  refine wpAnyH_take (i := 0) (v := .pointer (some ⟨H, 4, none⟩)) rfl (by kernel_rfl) (by kernel_rfl) (by kernel_rfl) (fun _ _ _ h => h) (Or.inl ⟨by rfl, fun w hw => by go_simp⟩) hHeld ?_
  simp only [Act.put, List.getElem_toArray, List.getElem_cons_zero, List.setIfInBounds_toArray, List.set_cons_zero, List.set_cons_succ]
  refine wpAnyH_take (i := 1) (v := .slice ma es.length mc) rfl (by kernel_rfl) (by kernel_rfl) (by kernel_rfl) (fun _ _ _ h => h) (Or.inl ⟨by rfl, fun w hw => by obtain ⟨s0, s1, s2, s3, s4⟩ := hw; go_simp⟩) hHeld ?_
  simp only [Act.put, List.getElem_toArray, List.getElem_cons_zero, List.getElem_cons_succ, List.setIfInBounds_toArray, List.set_cons_zero, List.set_cons_succ]
  refine wpAnyH_take (i := 2) (v := .pointer (some ⟨H, 0, none⟩)) rfl (by kernel_rfl) (by kernel_rfl) (by kernel_rfl) (fun _ _ _ h => h) (Or.inl ⟨by rfl, fun w hw => by go_simp⟩) hHeld ?_
  simp only [Act.put, List.getElem_toArray, List.getElem_cons_zero, List.getElem_cons_succ, List.setIfInBounds_toArray, List.set_cons_zero, List.set_cons_succ]
  refine wpAnyH_take (i := 3) (v := .slice na ns.length nc) rfl (by kernel_rfl) (by kernel_rfl) (by kernel_rfl) (fun _ _ _ h => h) (Or.inl ⟨by rfl, fun w hw => by obtain ⟨s0, s1, s2, s3, s4⟩ := hw; go_simp⟩) hHeld ?_
  simp only [Act.put, List.getElem_toArray, List.getElem_cons_zero, List.getElem_cons_succ, List.setIfInBounds_toArray, List.set_cons_zero, List.set_cons_succ]
  refine wpAnyH_take (i := 6) (v := .pointer (some ⟨H, 1, none⟩)) rfl (by kernel_rfl) (by kernel_rfl) (by kernel_rfl) (fun _ _ _ h => h) (Or.inl ⟨by rfl, fun w hw => by go_simp⟩) hHeld ?_
  simp only [Act.put, List.getElem_toArray, List.getElem_cons_zero, List.getElem_cons_succ, List.setIfInBounds_toArray, List.set_cons_zero, List.set_cons_succ]
  refine wpAnyH_take (i := 7) (v := .int .i64 sz) rfl (by kernel_rfl) (by kernel_rfl) (by kernel_rfl) (fun _ _ _ h => h) (Or.inl ⟨by rfl, fun w hw => by obtain ⟨s0, s1, s2, s3, s4⟩ := hw; go_simp⟩) hHeld ?_
  simp only [Act.put, List.getElem_toArray, List.getElem_cons_zero, List.getElem_cons_succ, List.setIfInBounds_toArray, List.set_cons_zero, List.set_cons_succ]
  refine wpAnyH_take (i := 8) (v := .bool (sz != 0)) rfl (by kernel_rfl) (by kernel_rfl) (by kernel_rfl) (fun _ _ _ h => h) (Or.inl ⟨by rfl, fun w hw => by go_simp⟩) hHeld ?_
  simp only [Act.put, List.getElem_toArray, List.getElem_cons_zero, List.getElem_cons_succ, List.setIfInBounds_toArray, List.set_cons_zero, List.set_cons_succ]
  refine wpAnyH_take (i := 9) (v := .pointer (some ⟨H, 1, none⟩)) rfl (by kernel_rfl) (by kernel_rfl) (by kernel_rfl) (fun _ _ _ h => h) (Or.inl ⟨by rfl, fun w hw => by go_simp⟩) hHeld ?_
  simp only [Act.put, List.getElem_toArray, List.getElem_cons_zero, List.getElem_cons_succ, List.setIfInBounds_toArray, List.set_cons_zero, List.set_cons_succ]
  refine wpAnyH_take (i := 10) (v := .int .i64 sz) rfl (by kernel_rfl) (by kernel_rfl) (by kernel_rfl) (fun _ _ _ h => h) (Or.inl ⟨by rfl, fun w hw => by obtain ⟨s0, s1, s2, s3, s4⟩ := hw; go_simp⟩) hHeld ?_
  simp only [Act.put, List.getElem_toArray, List.getElem_cons_zero, List.getElem_cons_succ, List.setIfInBounds_toArray, List.set_cons_zero, List.set_cons_succ]
  refine wpAnyH_take (i := 12) (v := .pointer (some ⟨H, 2, none⟩)) rfl (by kernel_rfl) (by kernel_rfl) (by kernel_rfl) (fun _ _ _ h => h) (Or.inl ⟨by rfl, fun w hw => by go_simp⟩) hHeld ?_
  simp only [Act.put, List.getElem_toArray, List.getElem_cons_zero, List.getElem_cons_succ, List.setIfInBounds_toArray, List.set_cons_zero, List.set_cons_succ]
  refine wpAnyH_take (i := 13) (v := .int .i64 qu) rfl (by kernel_rfl) (by kernel_rfl) (by kernel_rfl) (fun _ _ _ h => h) (Or.inl ⟨by rfl, fun w hw => by obtain ⟨s0, s1, s2, s3, s4⟩ := hw; go_simp⟩) hHeld ?_
  simp only [Act.put, List.getElem_toArray, List.getElem_cons_zero, List.getElem_cons_succ, List.setIfInBounds_toArray, List.set_cons_zero, List.set_cons_succ]
  refine wpAnyH_take (i := 14) (v := .bool (qu != 0)) rfl (by kernel_rfl) (by kernel_rfl) (by kernel_rfl) (fun _ _ _ h => h) (Or.inl ⟨by rfl, fun w hw => by go_simp⟩) hHeld ?_
  simp only [Act.put, List.getElem_toArray, List.getElem_cons_zero, List.getElem_cons_succ, List.setIfInBounds_toArray, List.set_cons_zero, List.set_cons_succ]
  refine wpAnyH_take (i := 15) (v := .pointer (some ⟨H, 2, none⟩)) rfl (by kernel_rfl) (by kernel_rfl) (by kernel_rfl) (fun _ _ _ h => h) (Or.inl ⟨by rfl, fun w hw => by go_simp⟩) hHeld ?_
  simp only [Act.put, List.getElem_toArray, List.getElem_cons_zero, List.getElem_cons_succ, List.setIfInBounds_toArray, List.set_cons_zero, List.set_cons_succ]
  refine wpAnyH_take (i := 16) (v := .int .i64 qu) rfl (by kernel_rfl) (by kernel_rfl) (by kernel_rfl) (fun _ _ _ h => h) (Or.inl ⟨by rfl, fun w hw => by obtain ⟨s0, s1, s2, s3, s4⟩ := hw; go_simp⟩) hHeld ?_
  simp only [Act.put, List.getElem_toArray, List.getElem_cons_zero, List.getElem_cons_succ, List.setIfInBounds_toArray, List.set_cons_zero, List.set_cons_succ]
  refine wpAnyH_take (i := 18) (v := .pointer (some ⟨H, 3, none⟩)) rfl (by kernel_rfl) (by kernel_rfl) (by kernel_rfl) (fun _ _ _ h => h) (Or.inl ⟨by rfl, fun w hw => by go_simp⟩) hHeld ?_
  simp only [Act.put, List.getElem_toArray, List.getElem_cons_zero, List.getElem_cons_succ, List.setIfInBounds_toArray, List.set_cons_zero, List.set_cons_succ]
  refine wpAnyH_take (i := 19) (v := .string ag) rfl (by kernel_rfl) (by kernel_rfl) (by kernel_rfl) (fun _ _ _ h => h) (Or.inl ⟨by rfl, fun w hw => by obtain ⟨s0, s1, s2, s3, s4⟩ := hw; go_simp⟩) hHeld ?_
  simp only [Act.put, List.getElem_toArray, List.getElem_cons_zero, List.getElem_cons_succ, List.setIfInBounds_toArray, List.set_cons_zero, List.set_cons_succ]
  refine wpAnyH_take (i := 20) (v := .bool ab) rfl (by kernel_rfl) (by kernel_rfl) (by kernel_rfl) (fun _ _ _ h => h) (Or.inl ⟨by rfl, fun w hw => by have hab := HAB.out; subst hab; go_simp⟩) hHeld ?_
  simp only [Act.put, List.getElem_toArray, List.getElem_cons_zero, List.getElem_cons_succ, List.setIfInBounds_toArray, List.set_cons_zero, List.set_cons_succ]
  refine wpAnyH_take (i := 21) (v := .pointer (some ⟨H, 3, none⟩)) rfl (by kernel_rfl) (by kernel_rfl) (by kernel_rfl) (fun _ _ _ h => h) (Or.inl ⟨by rfl, fun w hw => by go_simp⟩) hHeld ?_
  simp only [Act.put, List.getElem_toArray, List.getElem_cons_zero, List.getElem_cons_succ, List.setIfInBounds_toArray, List.set_cons_zero, List.set_cons_succ]
  refine wpAnyH_take (i := 22) (v := .string ag) rfl (by kernel_rfl) (by kernel_rfl) (by kernel_rfl) (fun _ _ _ h => h) (Or.inl ⟨by rfl, fun w hw => by obtain ⟨s0, s1, s2, s3, s4⟩ := hw; go_simp⟩) hHeld ?_
  simp only [Act.put, List.getElem_toArray, List.getElem_cons_zero, List.getElem_cons_succ, List.setIfInBounds_toArray, List.set_cons_zero, List.set_cons_succ]
  refine wpAnyH_ready (rs := [4, 26]) (by kernel_rfl) (by simp) ?_
  refine AllReadyH.cons (o := _) rfl (fun K hK => ?_) (AllReadyH.cons (o := _) rfl (fun K hK => ?_) AllReadyH.nil)
  · go_simp
    refine (namesDict57 _ ns wd (HK.out wd BW.out).2.2.2.1 (by omega)).mono ?_
    rintro e u1 ⟨v', rfl, hrd, b⟩
    obtain ⟨ya, yc, rfl⟩ : ∃ ya yc, v' = .slice ya ns.length yc := by obtain ⟨a, c, e, _⟩ := hrd; exact ⟨a, c, e⟩
    have VN : Hid (RV (fun b => b ≠ H + 1) u1 (tG (nE ns)) (.slice none 0 0) (.slice ya ns.length yc)) := RV.move (fun q hq _ => (by have h6 := (HK.out wd BW.out).2.2.1; show q ≠ H + 1; omega)) (Nat.le_refl _) (fun _ _ _ => rfl) _ _ _ (show RV (fun b => wd.heap.size ≤ b) u1 (tG (nE ns)) (.slice none 0 0) (.slice ya ns.length yc) from ⟨⟨none, 0, rfl, .inl rfl⟩, by rw [nE_len]; exact hrd⟩)
    have BW2 : Hid (Below w0.heap.size w0 u1) := BW.out.trans (b.mono BW.out.size)
    clear BW
    have BW : Hid (Below w0.heap.size w0 u1) := BW2.out
    clear BW2
    clear b hrd
    have hS : BoxC H u1 na ma nc mc ns.length es.length sz qu ag := (HK.out u1 BW.out).box
    go_wp2_with fail
    refine hK.out _ _ hS (fun hHeld => ?_)
    clear hK K hS
    refine wpAnyH_take (i := 5) (v := .agg #[.string kM, .int .i64 4, .int .i64 0, .string ⟨#[]⟩, .slice none 0 0, .slice ya ns.length yc]) rfl (by kernel_rfl) (by kernel_rfl) (by kernel_rfl) (fun _ _ _ h => h) (Or.inl ⟨by rfl, fun w hw => by go_simp; rfl⟩) hHeld ?_
    simp only [Act.put, List.getElem_toArray, List.getElem_cons_zero, List.getElem_cons_succ, List.setIfInBounds_toArray, List.set_cons_zero, List.set_cons_succ]
    refine wpAnyH_ready (rs := [11, 26]) (by kernel_rfl) (by simp) ?_
    refine AllReadyH.cons (o := _) rfl (fun K hK => ?_) (AllReadyH.cons (o := _) rfl (fun K hK => ?_) AllReadyH.nil)
    · go_simp
      refine (numberIf58x (sz != 0) kZ sz u1).mono ?_
      rintro e u2 ⟨rfl, b⟩
      have BW2 : Hid (Below w0.heap.size w0 u2) := BW.out.trans (b.mono BW.out.size)
      clear BW
      have BW : Hid (Below w0.heap.size w0 u2) := BW2.out
      clear BW2
      have VN2 : Hid (RV (fun b => b ≠ H + 1) u2 (tG (nE ns)) (.slice none 0 0) (.slice ya ns.length yc)) := RV.keep (fun _ h => h) b.size (fun q _ hl => b.block q hl) _ _ _ VN.out
      clear VN
      have VN : Hid (RV (fun b => b ≠ H + 1) u2 (tG (nE ns)) (.slice none 0 0) (.slice ya ns.length yc)) := VN2.out
      clear VN2
      clear b
      have hS : BoxC H u2 na ma nc mc ns.length es.length sz qu ag := (HK.out u2 BW.out).box
      go_wp2_with fail
      refine hK.out _ _ hS (fun hHeld => ?_)
      clear hK K hS
      refine wpAnyH_ready (rs := [17, 26]) (by kernel_rfl) (by simp) ?_
      refine AllReadyH.cons (o := _) rfl (fun K hK => ?_) (AllReadyH.cons (o := _) rfl (fun K hK => ?_) AllReadyH.nil)
      · go_simp
        refine (numberIf58x (qu != 0) kQ qu u2).mono ?_
        rintro e u3 ⟨rfl, b⟩
        have BW2 : Hid (Below w0.heap.size w0 u3) := BW.out.trans (b.mono BW.out.size)
        clear BW
        have BW : Hid (Below w0.heap.size w0 u3) := BW2.out
        clear BW2
        have VN2 : Hid (RV (fun b => b ≠ H + 1) u3 (tG (nE ns)) (.slice none 0 0) (.slice ya ns.length yc)) := RV.keep (fun _ h => h) b.size (fun q _ hl => b.block q hl) _ _ _ VN.out
        clear VN
        have VN : Hid (RV (fun b => b ≠ H + 1) u3 (tG (nE ns)) (.slice none 0 0) (.slice ya ns.length yc)) := VN2.out
        clear VN2
        clear b
        have hS : BoxC H u3 na ma nc mc ns.length es.length sz qu ag := (HK.out u3 BW.out).box
        go_wp2_with fail
        refine hK.out _ _ hS (fun hHeld => ?_)
        clear hK K hS
        refine wpAnyH_ready (rs := [23, 26]) (by kernel_rfl) (by simp) ?_
        refine AllReadyH.cons (o := _) rfl (fun K hK => ?_) (AllReadyH.cons (o := _) rfl (fun K hK => ?_) AllReadyH.nil)
        · go_simp
          refine (textIf59x ab kV ag u3).mono ?_
          rintro e u4 ⟨rfl, b⟩
          have BW2 : Hid (Below w0.heap.size w0 u4) := BW.out.trans (b.mono BW.out.size)
          clear BW
          have BW : Hid (Below w0.heap.size w0 u4) := BW2.out
          clear BW2
          have VN2 : Hid (RV (fun b => b ≠ H + 1) u4 (tG (nE ns)) (.slice none 0 0) (.slice ya ns.length yc)) := RV.keep (fun _ h => h) b.size (fun q _ hl => b.block q hl) _ _ _ VN.out
          clear VN
          have VN : Hid (RV (fun b => b ≠ H + 1) u4 (tG (nE ns)) (.slice none 0 0) (.slice ya ns.length yc)) := VN2.out
          clear VN2
          clear b
          have hS : BoxC H u4 na ma nc mc ns.length es.length sz qu ag := (HK.out u4 BW.out).box
          go_wp2_with fail
          refine hK.out _ _ hS (fun hHeld => ?_)
          clear hK K hS
          refine wpAnyH_ready (rs := [24, 26]) (by kernel_rfl) (by simp) ?_
          refine AllReadyH.cons (o := _) rfl (fun K hK => ?_) (AllReadyH.cons (o := _) rfl (fun K hK => ?_) AllReadyH.nil)
          · go_simp
            have b : Below u4.heap.size u4 (u4.alloc (.cells #[.string kM, .int .i64 4, .int .i64 0, .string ⟨#[]⟩, .slice none 0 0, .slice ya ns.length yc, .string kZ, .int .i64 (nI (sz != 0) sz).k, .int .i64 (nI (sz != 0) sz).n, .string (nI (sz != 0) sz).s, .slice none 0 0, .slice none 0 0, .string kQ, .int .i64 (nI (qu != 0) qu).k, .int .i64 (nI (qu != 0) qu).n, .string (nI (qu != 0) qu).s, .slice none 0 0, .slice none 0 0, .string kV, .int .i64 (sI ab ag).k, .int .i64 (sI ab ag).n, .string (sI ab ag).s, .slice none 0 0, .slice none 0 0] 59)) := (Below.refl _ _).alloc (Nat.le_refl _) _
            have DG1 : Hid ((u4.alloc (.cells #[.string kM, .int .i64 4, .int .i64 0, .string ⟨#[]⟩, .slice none 0 0, .slice ya ns.length yc, .string kZ, .int .i64 (nI (sz != 0) sz).k, .int .i64 (nI (sz != 0) sz).n, .string (nI (sz != 0) sz).s, .slice none 0 0, .slice none 0 0, .string kQ, .int .i64 (nI (qu != 0) qu).k, .int .i64 (nI (qu != 0) qu).n, .string (nI (qu != 0) qu).s, .slice none 0 0, .slice none 0 0, .string kV, .int .i64 (sI ab ag).k, .int .i64 (sI ab ag).n, .string (sI ab ag).s, .slice none 0 0, .slice none 0 0] 59)).heap[u4.heap.size]? = some (.cells (gCs (ownQ ns sz qu ag ab (.slice ya ns.length yc))).toArray 59 (0, 0))) := heap_new _ _
            have BW2 : Hid (Below w0.heap.size w0 (u4.alloc (.cells #[.string kM, .int .i64 4, .int .i64 0, .string ⟨#[]⟩, .slice none 0 0, .slice ya ns.length yc, .string kZ, .int .i64 (nI (sz != 0) sz).k, .int .i64 (nI (sz != 0) sz).n, .string (nI (sz != 0) sz).s, .slice none 0 0, .slice none 0 0, .string kQ, .int .i64 (nI (qu != 0) qu).k, .int .i64 (nI (qu != 0) qu).n, .string (nI (qu != 0) qu).s, .slice none 0 0, .slice none 0 0, .string kV, .int .i64 (sI ab ag).k, .int .i64 (sI ab ag).n, .string (sI ab ag).s, .slice none 0 0, .slice none 0 0] 59))) := BW.out.trans (b.mono BW.out.size)
            clear BW
            have BW : Hid (Below w0.heap.size w0 (u4.alloc (.cells #[.string kM, .int .i64 4, .int .i64 0, .string ⟨#[]⟩, .slice none 0 0, .slice ya ns.length yc, .string kZ, .int .i64 (nI (sz != 0) sz).k, .int .i64 (nI (sz != 0) sz).n, .string (nI (sz != 0) sz).s, .slice none 0 0, .slice none 0 0, .string kQ, .int .i64 (nI (qu != 0) qu).k, .int .i64 (nI (qu != 0) qu).n, .string (nI (qu != 0) qu).s, .slice none 0 0, .slice none 0 0, .string kV, .int .i64 (sI ab ag).k, .int .i64 (sI ab ag).n, .string (sI ab ag).s, .slice none 0 0, .slice none 0 0] 59))) := BW2.out
            clear BW2
            have VN2 : Hid (RV (fun b => b ≠ H + 1) (u4.alloc (.cells #[.string kM, .int .i64 4, .int .i64 0, .string ⟨#[]⟩, .slice none 0 0, .slice ya ns.length yc, .string kZ, .int .i64 (nI (sz != 0) sz).k, .int .i64 (nI (sz != 0) sz).n, .string (nI (sz != 0) sz).s, .slice none 0 0, .slice none 0 0, .string kQ, .int .i64 (nI (qu != 0) qu).k, .int .i64 (nI (qu != 0) qu).n, .string (nI (qu != 0) qu).s, .slice none 0 0, .slice none 0 0, .string kV, .int .i64 (sI ab ag).k, .int .i64 (sI ab ag).n, .string (sI ab ag).s, .slice none 0 0, .slice none 0 0] 59)) (tG (nE ns)) (.slice none 0 0) (.slice ya ns.length yc)) := RV.keep (fun _ h => h) b.size (fun q _ hl => b.block q hl) _ _ _ VN.out
            clear VN
            have VN : Hid (RV (fun b => b ≠ H + 1) (u4.alloc (.cells #[.string kM, .int .i64 4, .int .i64 0, .string ⟨#[]⟩, .slice none 0 0, .slice ya ns.length yc, .string kZ, .int .i64 (nI (sz != 0) sz).k, .int .i64 (nI (sz != 0) sz).n, .string (nI (sz != 0) sz).s, .slice none 0 0, .slice none 0 0, .string kQ, .int .i64 (nI (qu != 0) qu).k, .int .i64 (nI (qu != 0) qu).n, .string (nI (qu != 0) qu).s, .slice none 0 0, .slice none 0 0, .string kV, .int .i64 (sI ab ag).k, .int .i64 (sI ab ag).n, .string (sI ab ag).s, .slice none 0 0, .slice none 0 0] 59)) (tG (nE ns)) (.slice none 0 0) (.slice ya ns.length yc)) := VN2.out
            clear VN2
            clear b
            have hS : BoxC H (u4.alloc (.cells #[.string kM, .int .i64 4, .int .i64 0, .string ⟨#[]⟩, .slice none 0 0, .slice ya ns.length yc, .string kZ, .int .i64 (nI (sz != 0) sz).k, .int .i64 (nI (sz != 0) sz).n, .string (nI (sz != 0) sz).s, .slice none 0 0, .slice none 0 0, .string kQ, .int .i64 (nI (qu != 0) qu).k, .int .i64 (nI (qu != 0) qu).n, .string (nI (qu != 0) qu).s, .slice none 0 0, .slice none 0 0, .string kV, .int .i64 (sI ab ag).k, .int .i64 (sI ab ag).n, .string (sI ab ag).s, .slice none 0 0, .slice none 0 0] 59)) na ma nc mc ns.length es.length sz qu ag := (HK.out (u4.alloc (.cells #[.string kM, .int .i64 4, .int .i64 0, .string ⟨#[]⟩, .slice none 0 0, .slice ya ns.length yc, .string kZ, .int .i64 (nI (sz != 0) sz).k, .int .i64 (nI (sz != 0) sz).n, .string (nI (sz != 0) sz).s, .slice none 0 0, .slice none 0 0, .string kQ, .int .i64 (nI (qu != 0) qu).k, .int .i64 (nI (qu != 0) qu).n, .string (nI (qu != 0) qu).s, .slice none 0 0, .slice none 0 0, .string kV, .int .i64 (sI ab ag).k, .int .i64 (sI ab ag).n, .string (sI ab ag).s, .slice none 0 0, .slice none 0 0] 59)) BW.out).box
            refine hK.out _ _ hS (fun hHeld => ?_)
            clear hK K hS
            generalize (u4.alloc (.cells #[.string kM, .int .i64 4, .int .i64 0, .string ⟨#[]⟩, .slice none 0 0, .slice ya ns.length yc, .string kZ, .int .i64 (nI (sz != 0) sz).k, .int .i64 (nI (sz != 0) sz).n, .string (nI (sz != 0) sz).s, .slice none 0 0, .slice none 0 0, .string kQ, .int .i64 (nI (qu != 0) qu).k, .int .i64 (nI (qu != 0) qu).n, .string (nI (qu != 0) qu).s, .slice none 0 0, .slice none 0 0, .string kV, .int .i64 (sI ab ag).k, .int .i64 (sI ab ag).n, .string (sI ab ag).s, .slice none 0 0, .slice none 0 0] 59)) = u5 at *
            generalize u4.heap.size = g5 at *
            refine wpAnyH_ready (rs := [25, 26]) (by kernel_rfl) (by simp) ?_
            refine AllReadyH.cons (o := _) rfl (fun K hK => ?_) (AllReadyH.cons (o := _) rfl (fun K hK => ?_) AllReadyH.nil)
            · go_simp
              refine (dictionary48 es (ownQ ns sz qu ag ab (.slice ya ns.length yc)) _ _ 4 u5 ((HK.out u5 BW.out).2.2.2.2.mono (by have := (HK.out u5 BW.out).2.2.1; omega)) (.inr ⟨g5, rfl, DG1.out⟩) (fun e he => RV.keep (fun _ _ => trivial) (Nat.le_refl _) (fun _ _ _ => rfl) _ _ _ (own_rv VN.out e he)) (by show es.length + 4 ≤ _; omega)).mono ?_
              rintro e u6 ⟨v', es', rfl, hld, hgr, b⟩
              obtain ⟨va, vc, rfl⟩ := hgr.form
              clear DG1
              have DG1 : Hid (LD es (ownQ ns sz qu ag ab (.slice ya ns.length yc)) es' ∧ GR (u5.heap.size + 1) u5.heap.size u6 (.slice va es'.length vc) es' ∧ H + 2 ≤ u5.heap.size + 1) := ⟨hld, hgr, by have h6 := (HK.out u5 BW.out).2.2.1; omega⟩
              have BW2 : Hid (Below w0.heap.size w0 u6) := BW.out.trans (b.mono BW.out.size)
              clear BW
              have BW : Hid (Below w0.heap.size w0 u6) := BW2.out
              clear BW2
              have VN2 : Hid (RV (fun b => b ≠ H + 1) u6 (tG (nE ns)) (.slice none 0 0) (.slice ya ns.length yc)) := RV.keep (fun _ h => h) b.size (fun q _ hl => b.block q hl) _ _ _ VN.out
              clear VN
              have VN : Hid (RV (fun b => b ≠ H + 1) u6 (tG (nE ns)) (.slice none 0 0) (.slice ya ns.length yc)) := VN2.out
              clear VN2
              clear b hld hgr
              have hS : BoxC H u6 na ma nc mc ns.length es.length sz qu ag := (HK.out u6 BW.out).box
              go_wp2_with fail
              refine hK.out _ _ hS (fun hHeld => ?_)
              clear hK K hS
              generalize u5.heap.size + 1 = B5 at *
              generalize u5.heap.size = A5 at *
              refine wpAnyH_ready (rs := [26]) (by kernel_rfl) (by simp) ?_
              refine AllReadyH.cons (o := _) rfl (fun K hK => ?_) AllReadyH.nil
              go_simp
              have bz : Below u6.heap.size u6 (u6.alloc (.cells #[.int .i64 0, .int .i64 0, .string ⟨#[]⟩, .slice none 0 0, .slice none 0 0] 56)) := (Below.refl _ _).alloc (Nat.le_refl _) _
              have AD : Hid ((u6.alloc (.cells #[.int .i64 0, .int .i64 0, .string ⟨#[]⟩, .slice none 0 0, .slice none 0 0] 56)).heap[u6.heap.size]? = some (.cells #[.int .i64 0, .int .i64 0, .string ⟨#[]⟩, .slice none 0 0, .slice none 0 0] 56 (0, 0)) ∧ w0.heap.size ≤ u6.heap.size) := ⟨heap_new _ _, BW.out.size⟩
              have BW2 : Hid (Below w0.heap.size w0 (u6.alloc (.cells #[.int .i64 0, .int .i64 0, .string ⟨#[]⟩, .slice none 0 0, .slice none 0 0] 56))) := BW.out.trans (bz.mono BW.out.size)
              clear BW
              have BW : Hid (Below w0.heap.size w0 (u6.alloc (.cells #[.int .i64 0, .int .i64 0, .string ⟨#[]⟩, .slice none 0 0, .slice none 0 0] 56))) := BW2.out
              clear BW2
              have hS : BoxC H (u6.alloc (.cells #[.int .i64 0, .int .i64 0, .string ⟨#[]⟩, .slice none 0 0, .slice none 0 0] 56)) na ma nc mc ns.length es.length sz qu ag := (HK.out (u6.alloc (.cells #[.int .i64 0, .int .i64 0, .string ⟨#[]⟩, .slice none 0 0, .slice none 0 0] 56)) BW.out).box
              have VN2 : Hid (RV (fun b => b ≠ u6.heap.size ∧ b ≠ H + 1) (u6.alloc (.cells #[.int .i64 0, .int .i64 0, .string ⟨#[]⟩, .slice none 0 0, .slice none 0 0] 56)) (tG (nE ns)) (.slice none 0 0) (.slice ya ns.length yc)) := RV.move (fun b hb hl => ⟨by omega, hb⟩) bz.size (fun b _ hl => bz.block b hl) _ _ _ VN.out
              clear VN
              have VN : Hid (RV (fun b => b ≠ u6.heap.size ∧ b ≠ H + 1) (u6.alloc (.cells #[.int .i64 0, .int .i64 0, .string ⟨#[]⟩, .slice none 0 0, .slice none 0 0] 56)) (tG (nE ns)) (.slice none 0 0) (.slice ya ns.length yc)) := VN2.out
              clear VN2
              have DG2 : Hid (LD es (ownQ ns sz qu ag ab (.slice ya ns.length yc)) es' ∧ GR B5 A5 (u6.alloc (.cells #[.int .i64 0, .int .i64 0, .string ⟨#[]⟩, .slice none 0 0, .slice none 0 0] 56)) (.slice va es'.length vc) es' ∧ (∀ g l c, Value.slice va es'.length vc = .slice (some ⟨g, 0, none⟩) l c → g ≠ u6.heap.size) ∧ H + 2 ≤ B5) := ⟨DG1.out.1, DG1.out.2.1.keep bz, fun g l c hg => by (have h8 := GR_lt DG1.out.2.1 hg; omega), DG1.out.2.2⟩
              clear DG1
              refine hK.out _ _ hS (fun hHeld => ?_)
              clear hK K hS
              clear bz
              generalize u6.alloc (.cells #[.int .i64 0, .int .i64 0, .string ⟨#[]⟩, .slice none 0 0, .slice none 0 0] 56) = a7 at *
              generalize u6.heap.size = da at *
              have DG1 := DG2
              clear DG2
              have hR := AD.out.1
              have r0 : a7.cell? ⟨da, 0, none⟩ = some (.int .i64 0) := by simp [World.cell?, hR]
              have r1 : a7.cell? ⟨da, 1, none⟩ = some (.int .i64 0) := by simp [World.cell?, hR]
              have r2 : a7.cell? ⟨da, 2, none⟩ = some (.string ⟨#[]⟩) := by simp [World.cell?, hR]
              have r3 : a7.cell? ⟨da, 3, none⟩ = some (.slice none 0 0) := by simp [World.cell?, hR]
              have r4 : a7.cell? ⟨da, 4, none⟩ = some (.slice none 0 0) := by simp [World.cell?, hR]
              have f0 : ∀ j, a7.frozen? ⟨da, j, none⟩ = false := fun j => by simp [World.frozen?, hR]
              have z0 := f0 0
              have z1 := f0 1
              have z2 := f0 2
              have z3 := f0 3
              have z4 := f0 4
              clear hR f0
              have HWE : Hid (WF46 w0 (((((a7.setCell ⟨da, 0, none⟩ (.int .i64 4)).setCell ⟨da, 1, none⟩ (.int .i64 0)).setCell ⟨da, 2, none⟩ (.string ⟨#[]⟩)).setCell ⟨da, 3, none⟩ (.slice none 0 0)).setCell ⟨da, 4, none⟩ (.slice va es'.length vc)) H da na ma nc mc ns sz qu ag es (ownQ ns sz qu ag ab (.slice ya ns.length yc)) es' va vc) := WF46.of HWZ.out BW.out AD.out DG1.out VN.out
              have hS : BoxC H (((((a7.setCell ⟨da, 0, none⟩ (.int .i64 4)).setCell ⟨da, 1, none⟩ (.int .i64 0)).setCell ⟨da, 2, none⟩ (.string ⟨#[]⟩)).setCell ⟨da, 3, none⟩ (.slice none 0 0)).setCell ⟨da, 4, none⟩ (.slice va es'.length vc)) na ma nc mc ns.length es.length sz qu ag := HWE.out.2.2.1
              refine wpAnyH_ready (rs := [27]) (by kernel_rfl) (by simp) ?_
              refine AllReadyH.cons (o := _) rfl (fun K hK => ?_) AllReadyH.nil
              go_simp
              refine hK.out _ _ hS (fun hHeld => ?_)
              clear hK K hS
              refine wpAnyH_done (by kernel_rfl) ?_ _
              clear hHeld
              clear r0 r1 r2 r3 r4 z0 z1 z2 z3 z4 VN AD DG1 BW
              generalize (((((a7.setCell ⟨da, 0, none⟩ (.int .i64 4)).setCell ⟨da, 1, none⟩ (.int .i64 0)).setCell ⟨da, 2, none⟩ (.string ⟨#[]⟩)).setCell ⟨da, 3, none⟩ (.slice none 0 0)).setCell ⟨da, 4, none⟩ (.slice va es'.length vc)) = wF at *
              have HD : Hid (∀ x, Below wF.heap.size wF x → x.cell? ⟨da, 0, none⟩ = some (.int .i64 4) ∧ x.cell? ⟨da, 1, none⟩ = some (.int .i64 0) ∧ x.cell? ⟨da, 2, none⟩ = some (.string ⟨#[]⟩) ∧ x.cell? ⟨da, 3, none⟩ = some (.slice none 0 0) ∧ x.cell? ⟨da, 4, none⟩ = some (.slice va es'.length vc)) := fun x hx => by
                have e9 : x.heap[da]? = _ := (hx.block da (Array.getElem?_eq_some_iff.1 HWE.out.2.2.2.2.1).1).trans HWE.out.2.2.2.2.1
                refine ⟨?_, ?_, ?_, ?_, ?_⟩ <;> simp [World.cell?, e9]
              have HOK : Hid ((tG es').ok) := tG_ok (by have h9 := HWE.out.1.len; simp only [ownQ, List.length_cons, List.length_nil] at h9; omega) (fun e he => (HWE.out.1.mem e he).elim (hke e) (own_ok (by omega) hkn hka e))
              have HV := Lib.hid (valid32G es' va vc wF.drew HOK.out (rd_keep (belowDrew1 wF) (fun _ _ => trivial) HWE.out.2.1))
              go_upto_region 4 with fail
              refine wp_region_held_drew (S := fun x => x.cell? ⟨da, 0, none⟩ = some (.int .i64 4) ∧ x.cell? ⟨da, 1, none⟩ = some (.int .i64 0) ∧ x.cell? ⟨da, 2, none⟩ = some (.string ⟨#[]⟩) ∧ x.cell? ⟨da, 3, none⟩ = some (.slice none 0 0) ∧ x.cell? ⟨da, 4, none⟩ = some (.slice va es'.length vc)) (by kernel_rfl) (HD.out _ (belowDrew1 wF)) (fun hHeld => ?_)
              refine wpAnyH_take (i := 0) (v := .agg #[.int .i64 4, .int .i64 0, .string ⟨#[]⟩, .slice none 0 0, .slice va es'.length vc]) rfl (by kernel_rfl) (by kernel_rfl) (by kernel_rfl) (fun _ _ _ h => h) (Or.inl ⟨by rfl, fun w hw => by obtain ⟨s0, s1, s2, s3, s4⟩ := hw; go_simp⟩) hHeld ?_
              simp only [Act.put, List.getElem_toArray, List.getElem_cons_zero, List.setIfInBounds_toArray, List.set_cons_zero, List.set_cons_succ]
              refine wpAnyH_take (i := 1) (v := .agg #[.int .i64 4, .int .i64 0, .string ⟨#[]⟩, .slice none 0 0, .slice va es'.length vc]) rfl (by kernel_rfl) (by kernel_rfl) (by kernel_rfl) (fun _ _ _ h => h) (Or.inl ⟨by rfl, fun w hw => by obtain ⟨s0, s1, s2, s3, s4⟩ := hw; go_simp⟩) hHeld ?_
              simp only [Act.put, List.getElem_toArray, List.getElem_cons_zero, List.getElem_cons_succ, List.setIfInBounds_toArray, List.set_cons_zero, List.set_cons_succ]
              refine wpAnyH_ready (rs := [2]) (by kernel_rfl) (by simp) ?_
              refine AllReadyH.cons (o := _) rfl (fun K hK => ?_) AllReadyH.nil
              go_simp
              refine HV.out.mono ?_
              rintro e wv ⟨rfl, b⟩
              have BV : Hid (Below wF.heap.size wF wv) := (belowDrew1 wF).trans (b.mono (Nat.le_refl _))
              have hS := HD.out wv BV.out
              clear b
              generalize hkk : wk (tG es') 0 = kk
              go_wp2_with fail
              refine hK.out _ _ hS (fun hHeld => ?_)
              clear hK K
              refine wpAnyH_take (i := 3) (v := .bool (kk == 0)) rfl (by kernel_rfl) (by kernel_rfl) (by kernel_rfl) (fun _ _ _ h => h) (Or.inl ⟨by rfl, fun w hw => by go_simp⟩) hHeld ?_
              simp only [Act.put, List.getElem_toArray, List.getElem_cons_zero, List.getElem_cons_succ, List.setIfInBounds_toArray, List.set_cons_zero, List.set_cons_succ]
              have hR := (HK.out wv (HWE.out.2.2.2.1.trans (BV.out.mono HWE.out.2.2.2.1.size))).2.1
              have r0 : wv.cell? ⟨H + 1, 0, none⟩ = some (.int .i64 0) := by simp [World.cell?, hR]
              have r1 : wv.cell? ⟨H + 1, 1, none⟩ = some (.int .i64 0) := by simp [World.cell?, hR]
              have r2 : wv.cell? ⟨H + 1, 2, none⟩ = some (.string ⟨#[]⟩) := by simp [World.cell?, hR]
              have r3 : wv.cell? ⟨H + 1, 3, none⟩ = some (.slice none 0 0) := by simp [World.cell?, hR]
              have r4 : wv.cell? ⟨H + 1, 4, none⟩ = some (.slice none 0 0) := by simp [World.cell?, hR]
              have f0 : ∀ j, wv.frozen? ⟨H + 1, j, none⟩ = false := fun j => by simp [World.frozen?, hR]
              have z0 := f0 0
              have z1 := f0 1
              have z2 := f0 2
              have z3 := f0 3
              have z4 := f0 4
              have HRR := Lib.hid hR
              clear hR f0
              have hS2 : (((((wv.setCell ⟨H + 1, 0, none⟩ (.int .i64 4)).setCell ⟨H + 1, 1, none⟩ (.int .i64 0)).setCell ⟨H + 1, 2, none⟩ (.string ⟨#[]⟩)).setCell ⟨H + 1, 3, none⟩ (.slice none 0 0)).setCell ⟨H + 1, 4, none⟩ (.slice va es'.length vc)).cell? ⟨da, 0, none⟩ = some (.int .i64 4) ∧ (((((wv.setCell ⟨H + 1, 0, none⟩ (.int .i64 4)).setCell ⟨H + 1, 1, none⟩ (.int .i64 0)).setCell ⟨H + 1, 2, none⟩ (.string ⟨#[]⟩)).setCell ⟨H + 1, 3, none⟩ (.slice none 0 0)).setCell ⟨H + 1, 4, none⟩ (.slice va es'.length vc)).cell? ⟨da, 1, none⟩ = some (.int .i64 0) ∧ (((((wv.setCell ⟨H + 1, 0, none⟩ (.int .i64 4)).setCell ⟨H + 1, 1, none⟩ (.int .i64 0)).setCell ⟨H + 1, 2, none⟩ (.string ⟨#[]⟩)).setCell ⟨H + 1, 3, none⟩ (.slice none 0 0)).setCell ⟨H + 1, 4, none⟩ (.slice va es'.length vc)).cell? ⟨da, 2, none⟩ = some (.string ⟨#[]⟩) ∧ (((((wv.setCell ⟨H + 1, 0, none⟩ (.int .i64 4)).setCell ⟨H + 1, 1, none⟩ (.int .i64 0)).setCell ⟨H + 1, 2, none⟩ (.string ⟨#[]⟩)).setCell ⟨H + 1, 3, none⟩ (.slice none 0 0)).setCell ⟨H + 1, 4, none⟩ (.slice va es'.length vc)).cell? ⟨da, 3, none⟩ = some (.slice none 0 0) ∧ (((((wv.setCell ⟨H + 1, 0, none⟩ (.int .i64 4)).setCell ⟨H + 1, 1, none⟩ (.int .i64 0)).setCell ⟨H + 1, 2, none⟩ (.string ⟨#[]⟩)).setCell ⟨H + 1, 3, none⟩ (.slice none 0 0)).setCell ⟨H + 1, 4, none⟩ (.slice va es'.length vc)).cell? ⟨da, 4, none⟩ = some (.slice va es'.length vc) := by
                have e8 := (besides5 wv (H + 1) (.int .i64 4) (.int .i64 0) (.string ⟨#[]⟩) (.slice none 0 0) (.slice va es'.length vc)).block da (Nat.lt_of_lt_of_le (Array.getElem?_eq_some_iff.1 HWE.out.2.2.2.2.1).1 BV.out.size) (by have h6 := HWE.out.2.2.2.2.2; have h5 := HWZ.out.2.2.1; omega)
                refine ⟨(World.cell?_of_block (w := wv) (a := ⟨da, 0, none⟩) e8).trans hS.1, (World.cell?_of_block (w := wv) (a := ⟨da, 1, none⟩) e8).trans hS.2.1, (World.cell?_of_block (w := wv) (a := ⟨da, 2, none⟩) e8).trans hS.2.2.1, (World.cell?_of_block (w := wv) (a := ⟨da, 3, none⟩) e8).trans hS.2.2.2.1, (World.cell?_of_block (w := wv) (a := ⟨da, 4, none⟩) e8).trans hS.2.2.2.2⟩
              refine wpAnyH_ready (rs := [4]) (by kernel_rfl) (by simp) ?_
              refine AllReadyH.cons (o := _) rfl (fun K hK => ?_) AllReadyH.nil
              go_simp
              refine hK.out _ _ hS2 (fun hHeld => ?_)
              clear hK K
              refine wpAnyH_ready (rs := [5]) (by kernel_rfl) (by simp) ?_
              refine AllReadyH.cons (o := _) rfl (fun K hK => ?_) AllReadyH.nil
              go_simp
              refine hK.out _ _ hS2 (fun hHeld => ?_)
              clear hK K
              refine wpAnyH_done (by kernel_rfl) ?_ _
              clear hHeld
              clear hS hS2 r0 r1 r2 r3 r4 z0 z1 z2 z3 z4
              go_wp2
              refine bodyPost_ret (v := .tuple #[.agg #[.int .i64 4, .int .i64 0, .string ⟨#[]⟩, .slice none 0 0, .slice va es'.length vc], .bool (kk == 0)]) (results_cell2 Try.results46 _ _ (H + 1) _ rfl (ow.set (ow.set (ow.set (ow.set (ow.set HRR.out 0 _) 1 _) 2 _) 3 _) 4 _) rfl) rfl ⟨.slice ya ns.length yc, .slice va es'.length vc, es', by rw [hkk], ?_, ?_, ?_⟩
              · rw [show ownP ns sz qu ag (.slice ya ns.length yc) = ownQ ns sz qu ag ab (.slice ya ns.length yc) by unfold ownP; rw [HAB.out]]
                exact HWE.out.1
              · exact ⟨⟨none, 0, rfl, .inl rfl⟩, rd_besides (besides5 _ _ _ _ _ _ _) (rd_keep BV.out (fun _ h => h) HWE.out.2.1)⟩
              · rw [HS.out]
                exact below5 (HB0.out.trans ((HWE.out.2.2.2.1.trans (BV.out.mono HWE.out.2.2.2.1.size)).mono (by have h5 := HWZ.out.2.2.1; omega))) (by omega) _ _ _ _ _
            · go_simp
              have bz : Below u5.heap.size u5 (u5.alloc (.cells #[.int .i64 0, .int .i64 0, .string ⟨#[]⟩, .slice none 0 0, .slice none 0 0] 56)) := (Below.refl _ _).alloc (Nat.le_refl _) _
              have AD : Hid ((u5.alloc (.cells #[.int .i64 0, .int .i64 0, .string ⟨#[]⟩, .slice none 0 0, .slice none 0 0] 56)).heap[u5.heap.size]? = some (.cells #[.int .i64 0, .int .i64 0, .string ⟨#[]⟩, .slice none 0 0, .slice none 0 0] 56 (0, 0)) ∧ w0.heap.size ≤ u5.heap.size) := ⟨heap_new _ _, BW.out.size⟩
              have BW2 : Hid (Below w0.heap.size w0 (u5.alloc (.cells #[.int .i64 0, .int .i64 0, .string ⟨#[]⟩, .slice none 0 0, .slice none 0 0] 56))) := BW.out.trans (bz.mono BW.out.size)
              clear BW
              have BW : Hid (Below w0.heap.size w0 (u5.alloc (.cells #[.int .i64 0, .int .i64 0, .string ⟨#[]⟩, .slice none 0 0, .slice none 0 0] 56))) := BW2.out
              clear BW2
              have hS : BoxC H (u5.alloc (.cells #[.int .i64 0, .int .i64 0, .string ⟨#[]⟩, .slice none 0 0, .slice none 0 0] 56)) na ma nc mc ns.length es.length sz qu ag := (HK.out (u5.alloc (.cells #[.int .i64 0, .int .i64 0, .string ⟨#[]⟩, .slice none 0 0, .slice none 0 0] 56)) BW.out).box
              have VN2 : Hid (RV (fun b => b ≠ u5.heap.size ∧ b ≠ H + 1) (u5.alloc (.cells #[.int .i64 0, .int .i64 0, .string ⟨#[]⟩, .slice none 0 0, .slice none 0 0] 56)) (tG (nE ns)) (.slice none 0 0) (.slice ya ns.length yc)) := RV.move (fun b hb hl => ⟨by omega, hb⟩) bz.size (fun b _ hl => bz.block b hl) _ _ _ VN.out
              clear VN
              have VN : Hid (RV (fun b => b ≠ u5.heap.size ∧ b ≠ H + 1) (u5.alloc (.cells #[.int .i64 0, .int .i64 0, .string ⟨#[]⟩, .slice none 0 0, .slice none 0 0] 56)) (tG (nE ns)) (.slice none 0 0) (.slice ya ns.length yc)) := VN2.out
              clear VN2
              have DG2 : Hid ((u5.alloc (.cells #[.int .i64 0, .int .i64 0, .string ⟨#[]⟩, .slice none 0 0, .slice none 0 0] 56)).heap[g5]? = some (.cells (gCs (ownQ ns sz qu ag ab (.slice ya ns.length yc))).toArray 59 (0, 0))) := (bz.block g5 (Array.getElem?_eq_some_iff.1 DG1.out).1).trans DG1.out
              clear DG1
              refine hK.out _ _ hS (fun hHeld => ?_)
              clear hK K hS
              clear bz
              generalize u5.alloc (.cells #[.int .i64 0, .int .i64 0, .string ⟨#[]⟩, .slice none 0 0, .slice none 0 0] 56) = a8 at *
              generalize u5.heap.size = da at *
              have DG1 := DG2
              clear DG2
              refine wpAnyH_ready (rs := [25]) (by kernel_rfl) (by simp) ?_
              refine AllReadyH.cons (o := _) rfl (fun K hK => ?_) AllReadyH.nil
              go_simp
              refine (dictionary48 es (ownQ ns sz qu ag ab (.slice ya ns.length yc)) _ _ 4 a8 ((HK.out a8 BW.out).2.2.2.2.mono (by have := (HK.out a8 BW.out).2.2.1; omega)) (.inr ⟨g5, rfl, DG1.out⟩) (fun e he => RV.keep (fun _ _ => trivial) (Nat.le_refl _) (fun _ _ _ => rfl) _ _ _ (own_rv VN.out e he)) (by show es.length + 4 ≤ _; omega)).mono ?_
              rintro e u9 ⟨v', es', rfl, hld, hgr, b⟩
              obtain ⟨va, vc, rfl⟩ := hgr.form
              clear DG1
              have DG1 : Hid (LD es (ownQ ns sz qu ag ab (.slice ya ns.length yc)) es' ∧ GR (a8.heap.size + 1) a8.heap.size u9 (.slice va es'.length vc) es' ∧ (∀ g l c, Value.slice va es'.length vc = .slice (some ⟨g, 0, none⟩) l c → g ≠ da) ∧ H + 2 ≤ a8.heap.size + 1) := ⟨hld, hgr, fun g l c hg => by (have h8 := GR_ge hgr hg; have h7 := (Array.getElem?_eq_some_iff.1 AD.out.1).1; omega), by have h6 := (HK.out a8 BW.out).2.2.1; omega⟩
              have BW2 : Hid (Below w0.heap.size w0 u9) := BW.out.trans (b.mono BW.out.size)
              clear BW
              have BW : Hid (Below w0.heap.size w0 u9) := BW2.out
              clear BW2
              have VN2 : Hid (RV (fun b => b ≠ da ∧ b ≠ H + 1) u9 (tG (nE ns)) (.slice none 0 0) (.slice ya ns.length yc)) := RV.keep (fun _ h => h) b.size (fun q _ hl => b.block q hl) _ _ _ VN.out
              clear VN
              have VN : Hid (RV (fun b => b ≠ da ∧ b ≠ H + 1) u9 (tG (nE ns)) (.slice none 0 0) (.slice ya ns.length yc)) := VN2.out
              clear VN2
              have AD2 : Hid (u9.heap[da]? = some (.cells #[.int .i64 0, .int .i64 0, .string ⟨#[]⟩, .slice none 0 0, .slice none 0 0] 56 (0, 0)) ∧ w0.heap.size ≤ da) := ⟨(b.block da (Array.getElem?_eq_some_iff.1 AD.out.1).1).trans AD.out.1, AD.out.2⟩
              clear AD
              have AD : Hid (u9.heap[da]? = some (.cells #[.int .i64 0, .int .i64 0, .string ⟨#[]⟩, .slice none 0 0, .slice none 0 0] 56 (0, 0)) ∧ w0.heap.size ≤ da) := AD2.out
              clear AD2
              clear b hld hgr
              have hS : BoxC H u9 na ma nc mc ns.length es.length sz qu ag := (HK.out u9 BW.out).box
              go_wp2_with fail
              refine hK.out _ _ hS (fun hHeld => ?_)
              clear hK K hS
              generalize a8.heap.size + 1 = B5 at *
              generalize a8.heap.size = A5 at *
              have hR := AD.out.1
              have r0 : u9.cell? ⟨da, 0, none⟩ = some (.int .i64 0) := by simp [World.cell?, hR]
              have r1 : u9.cell? ⟨da, 1, none⟩ = some (.int .i64 0) := by simp [World.cell?, hR]
              have r2 : u9.cell? ⟨da, 2, none⟩ = some (.string ⟨#[]⟩) := by simp [World.cell?, hR]
              have r3 : u9.cell? ⟨da, 3, none⟩ = some (.slice none 0 0) := by simp [World.cell?, hR]
              have r4 : u9.cell? ⟨da, 4, none⟩ = some (.slice none 0 0) := by simp [World.cell?, hR]
              have f0 : ∀ j, u9.frozen? ⟨da, j, none⟩ = false := fun j => by simp [World.frozen?, hR]
              have z0 := f0 0
              have z1 := f0 1
              have z2 := f0 2
              have z3 := f0 3
              have z4 := f0 4
              clear hR f0
              have HWE : Hid (WF46 w0 (((((u9.setCell ⟨da, 0, none⟩ (.int .i64 4)).setCell ⟨da, 1, none⟩ (.int .i64 0)).setCell ⟨da, 2, none⟩ (.string ⟨#[]⟩)).setCell ⟨da, 3, none⟩ (.slice none 0 0)).setCell ⟨da, 4, none⟩ (.slice va es'.length vc)) H da na ma nc mc ns sz qu ag es (ownQ ns sz qu ag ab (.slice ya ns.length yc)) es' va vc) := WF46.of HWZ.out BW.out AD.out DG1.out VN.out
              have hS : BoxC H (((((u9.setCell ⟨da, 0, none⟩ (.int .i64 4)).setCell ⟨da, 1, none⟩ (.int .i64 0)).setCell ⟨da, 2, none⟩ (.string ⟨#[]⟩)).setCell ⟨da, 3, none⟩ (.slice none 0 0)).setCell ⟨da, 4, none⟩ (.slice va es'.length vc)) na ma nc mc ns.length es.length sz qu ag := HWE.out.2.2.1
              refine wpAnyH_ready (rs := [27]) (by kernel_rfl) (by simp) ?_
              refine AllReadyH.cons (o := _) rfl (fun K hK => ?_) AllReadyH.nil
              go_simp
              refine hK.out _ _ hS (fun hHeld => ?_)
              clear hK K hS
              refine wpAnyH_done (by kernel_rfl) ?_ _
              clear hHeld
              clear r0 r1 r2 r3 r4 z0 z1 z2 z3 z4 VN AD DG1 BW
              generalize (((((u9.setCell ⟨da, 0, none⟩ (.int .i64 4)).setCell ⟨da, 1, none⟩ (.int .i64 0)).setCell ⟨da, 2, none⟩ (.string ⟨#[]⟩)).setCell ⟨da, 3, none⟩ (.slice none 0 0)).setCell ⟨da, 4, none⟩ (.slice va es'.length vc)) = wF at *
              have HD : Hid (∀ x, Below wF.heap.size wF x → x.cell? ⟨da, 0, none⟩ = some (.int .i64 4) ∧ x.cell? ⟨da, 1, none⟩ = some (.int .i64 0) ∧ x.cell? ⟨da, 2, none⟩ = some (.string ⟨#[]⟩) ∧ x.cell? ⟨da, 3, none⟩ = some (.slice none 0 0) ∧ x.cell? ⟨da, 4, none⟩ = some (.slice va es'.length vc)) := fun x hx => by
                have e9 : x.heap[da]? = _ := (hx.block da (Array.getElem?_eq_some_iff.1 HWE.out.2.2.2.2.1).1).trans HWE.out.2.2.2.2.1
                refine ⟨?_, ?_, ?_, ?_, ?_⟩ <;> simp [World.cell?, e9]
              have HOK : Hid ((tG es').ok) := tG_ok (by have h9 := HWE.out.1.len; simp only [ownQ, List.length_cons, List.length_nil] at h9; omega) (fun e he => (HWE.out.1.mem e he).elim (hke e) (own_ok (by omega) hkn hka e))
              have HV := Lib.hid (valid32G es' va vc wF.drew HOK.out (rd_keep (belowDrew1 wF) (fun _ _ => trivial) HWE.out.2.1))
              go_upto_region 4 with fail
              refine wp_region_held_drew (S := fun x => x.cell? ⟨da, 0, none⟩ = some (.int .i64 4) ∧ x.cell? ⟨da, 1, none⟩ = some (.int .i64 0) ∧ x.cell? ⟨da, 2, none⟩ = some (.string ⟨#[]⟩) ∧ x.cell? ⟨da, 3, none⟩ = some (.slice none 0 0) ∧ x.cell? ⟨da, 4, none⟩ = some (.slice va es'.length vc)) (by kernel_rfl) (HD.out _ (belowDrew1 wF)) (fun hHeld => ?_)
              refine wpAnyH_take (i := 0) (v := .agg #[.int .i64 4, .int .i64 0, .string ⟨#[]⟩, .slice none 0 0, .slice va es'.length vc]) rfl (by kernel_rfl) (by kernel_rfl) (by kernel_rfl) (fun _ _ _ h => h) (Or.inl ⟨by rfl, fun w hw => by obtain ⟨s0, s1, s2, s3, s4⟩ := hw; go_simp⟩) hHeld ?_
              simp only [Act.put, List.getElem_toArray, List.getElem_cons_zero, List.setIfInBounds_toArray, List.set_cons_zero, List.set_cons_succ]
              refine wpAnyH_take (i := 1) (v := .agg #[.int .i64 4, .int .i64 0, .string ⟨#[]⟩, .slice none 0 0, .slice va es'.length vc]) rfl (by kernel_rfl) (by kernel_rfl) (by kernel_rfl) (fun _ _ _ h => h) (Or.inl ⟨by rfl, fun w hw => by obtain ⟨s0, s1, s2, s3, s4⟩ := hw; go_simp⟩) hHeld ?_
              simp only [Act.put, List.getElem_toArray, List.getElem_cons_zero, List.getElem_cons_succ, List.setIfInBounds_toArray, List.set_cons_zero, List.set_cons_succ]
              refine wpAnyH_ready (rs := [2]) (by kernel_rfl) (by simp) ?_
              refine AllReadyH.cons (o := _) rfl (fun K hK => ?_) AllReadyH.nil
              go_simp
              refine HV.out.mono ?_
              rintro e wv ⟨rfl, b⟩
              have BV : Hid (Below wF.heap.size wF wv) := (belowDrew1 wF).trans (b.mono (Nat.le_refl _))
              have hS := HD.out wv BV.out
              clear b
              generalize hkk : wk (tG es') 0 = kk
              go_wp2_with fail
              refine hK.out _ _ hS (fun hHeld => ?_)
              clear hK K
              refine wpAnyH_take (i := 3) (v := .bool (kk == 0)) rfl (by kernel_rfl) (by kernel_rfl) (by kernel_rfl) (fun _ _ _ h => h) (Or.inl ⟨by rfl, fun w hw => by go_simp⟩) hHeld ?_
              simp only [Act.put, List.getElem_toArray, List.getElem_cons_zero, List.getElem_cons_succ, List.setIfInBounds_toArray, List.set_cons_zero, List.set_cons_succ]
              have hR := (HK.out wv (HWE.out.2.2.2.1.trans (BV.out.mono HWE.out.2.2.2.1.size))).2.1
              have r0 : wv.cell? ⟨H + 1, 0, none⟩ = some (.int .i64 0) := by simp [World.cell?, hR]
              have r1 : wv.cell? ⟨H + 1, 1, none⟩ = some (.int .i64 0) := by simp [World.cell?, hR]
              have r2 : wv.cell? ⟨H + 1, 2, none⟩ = some (.string ⟨#[]⟩) := by simp [World.cell?, hR]
              have r3 : wv.cell? ⟨H + 1, 3, none⟩ = some (.slice none 0 0) := by simp [World.cell?, hR]
              have r4 : wv.cell? ⟨H + 1, 4, none⟩ = some (.slice none 0 0) := by simp [World.cell?, hR]
              have f0 : ∀ j, wv.frozen? ⟨H + 1, j, none⟩ = false := fun j => by simp [World.frozen?, hR]
              have z0 := f0 0
              have z1 := f0 1
              have z2 := f0 2
              have z3 := f0 3
              have z4 := f0 4
              have HRR := Lib.hid hR
              clear hR f0
              have hS2 : (((((wv.setCell ⟨H + 1, 0, none⟩ (.int .i64 4)).setCell ⟨H + 1, 1, none⟩ (.int .i64 0)).setCell ⟨H + 1, 2, none⟩ (.string ⟨#[]⟩)).setCell ⟨H + 1, 3, none⟩ (.slice none 0 0)).setCell ⟨H + 1, 4, none⟩ (.slice va es'.length vc)).cell? ⟨da, 0, none⟩ = some (.int .i64 4) ∧ (((((wv.setCell ⟨H + 1, 0, none⟩ (.int .i64 4)).setCell ⟨H + 1, 1, none⟩ (.int .i64 0)).setCell ⟨H + 1, 2, none⟩ (.string ⟨#[]⟩)).setCell ⟨H + 1, 3, none⟩ (.slice none 0 0)).setCell ⟨H + 1, 4, none⟩ (.slice va es'.length vc)).cell? ⟨da, 1, none⟩ = some (.int .i64 0) ∧ (((((wv.setCell ⟨H + 1, 0, none⟩ (.int .i64 4)).setCell ⟨H + 1, 1, none⟩ (.int .i64 0)).setCell ⟨H + 1, 2, none⟩ (.string ⟨#[]⟩)).setCell ⟨H + 1, 3, none⟩ (.slice none 0 0)).setCell ⟨H + 1, 4, none⟩ (.slice va es'.length vc)).cell? ⟨da, 2, none⟩ = some (.string ⟨#[]⟩) ∧ (((((wv.setCell ⟨H + 1, 0, none⟩ (.int .i64 4)).setCell ⟨H + 1, 1, none⟩ (.int .i64 0)).setCell ⟨H + 1, 2, none⟩ (.string ⟨#[]⟩)).setCell ⟨H + 1, 3, none⟩ (.slice none 0 0)).setCell ⟨H + 1, 4, none⟩ (.slice va es'.length vc)).cell? ⟨da, 3, none⟩ = some (.slice none 0 0) ∧ (((((wv.setCell ⟨H + 1, 0, none⟩ (.int .i64 4)).setCell ⟨H + 1, 1, none⟩ (.int .i64 0)).setCell ⟨H + 1, 2, none⟩ (.string ⟨#[]⟩)).setCell ⟨H + 1, 3, none⟩ (.slice none 0 0)).setCell ⟨H + 1, 4, none⟩ (.slice va es'.length vc)).cell? ⟨da, 4, none⟩ = some (.slice va es'.length vc) := by
                have e8 := (besides5 wv (H + 1) (.int .i64 4) (.int .i64 0) (.string ⟨#[]⟩) (.slice none 0 0) (.slice va es'.length vc)).block da (Nat.lt_of_lt_of_le (Array.getElem?_eq_some_iff.1 HWE.out.2.2.2.2.1).1 BV.out.size) (by have h6 := HWE.out.2.2.2.2.2; have h5 := HWZ.out.2.2.1; omega)
                refine ⟨(World.cell?_of_block (w := wv) (a := ⟨da, 0, none⟩) e8).trans hS.1, (World.cell?_of_block (w := wv) (a := ⟨da, 1, none⟩) e8).trans hS.2.1, (World.cell?_of_block (w := wv) (a := ⟨da, 2, none⟩) e8).trans hS.2.2.1, (World.cell?_of_block (w := wv) (a := ⟨da, 3, none⟩) e8).trans hS.2.2.2.1, (World.cell?_of_block (w := wv) (a := ⟨da, 4, none⟩) e8).trans hS.2.2.2.2⟩
              refine wpAnyH_ready (rs := [4]) (by kernel_rfl) (by simp) ?_
              refine AllReadyH.cons (o := _) rfl (fun K hK => ?_) AllReadyH.nil
              go_simp
              refine hK.out _ _ hS2 (fun hHeld => ?_)
              clear hK K
              refine wpAnyH_ready (rs := [5]) (by kernel_rfl) (by simp) ?_
              refine AllReadyH.cons (o := _) rfl (fun K hK => ?_) AllReadyH.nil
              go_simp
              refine hK.out _ _ hS2 (fun hHeld => ?_)
              clear hK K
              refine wpAnyH_done (by kernel_rfl) ?_ _
              clear hHeld
              clear hS hS2 r0 r1 r2 r3 r4 z0 z1 z2 z3 z4
              go_wp2
              refine bodyPost_ret (v := .tuple #[.agg #[.int .i64 4, .int .i64 0, .string ⟨#[]⟩, .slice none 0 0, .slice va es'.length vc], .bool (kk == 0)]) (results_cell2 Try.results46 _ _ (H + 1) _ rfl (ow.set (ow.set (ow.set (ow.set (ow.set HRR.out 0 _) 1 _) 2 _) 3 _) 4 _) rfl) rfl ⟨.slice ya ns.length yc, .slice va es'.length vc, es', by rw [hkk], ?_, ?_, ?_⟩
              · rw [show ownP ns sz qu ag (.slice ya ns.length yc) = ownQ ns sz qu ag ab (.slice ya ns.length yc) by unfold ownP; rw [HAB.out]]
                exact HWE.out.1
              · exact ⟨⟨none, 0, rfl, .inl rfl⟩, rd_besides (besides5 _ _ _ _ _ _ _) (rd_keep BV.out (fun _ h => h) HWE.out.2.1)⟩
              · rw [HS.out]
                exact below5 (HB0.out.trans ((HWE.out.2.2.2.1.trans (BV.out.mono HWE.out.2.2.2.1.size)).mono (by have h5 := HWZ.out.2.2.1; omega))) (by omega) _ _ _ _ _
          · go_simp
            have bz : Below u4.heap.size u4 (u4.alloc (.cells #[.int .i64 0, .int .i64 0, .string ⟨#[]⟩, .slice none 0 0, .slice none 0 0] 56)) := (Below.refl _ _).alloc (Nat.le_refl _) _
            have AD : Hid ((u4.alloc (.cells #[.int .i64 0, .int .i64 0, .string ⟨#[]⟩, .slice none 0 0, .slice none 0 0] 56)).heap[u4.heap.size]? = some (.cells #[.int .i64 0, .int .i64 0, .string ⟨#[]⟩, .slice none 0 0, .slice none 0 0] 56 (0, 0)) ∧ w0.heap.size ≤ u4.heap.size) := ⟨heap_new _ _, BW.out.size⟩
            have BW2 : Hid (Below w0.heap.size w0 (u4.alloc (.cells #[.int .i64 0, .int .i64 0, .string ⟨#[]⟩, .slice none 0 0, .slice none 0 0] 56))) := BW.out.trans (bz.mono BW.out.size)
            clear BW
            have BW : Hid (Below w0.heap.size w0 (u4.alloc (.cells #[.int .i64 0, .int .i64 0, .string ⟨#[]⟩, .slice none 0 0, .slice none 0 0] 56))) := BW2.out
            clear BW2
            have hS : BoxC H (u4.alloc (.cells #[.int .i64 0, .int .i64 0, .string ⟨#[]⟩, .slice none 0 0, .slice none 0 0] 56)) na ma nc mc ns.length es.length sz qu ag := (HK.out (u4.alloc (.cells #[.int .i64 0, .int .i64 0, .string ⟨#[]⟩, .slice none 0 0, .slice none 0 0] 56)) BW.out).box
            have VN2 : Hid (RV (fun b => b ≠ u4.heap.size ∧ b ≠ H + 1) (u4.alloc (.cells #[.int .i64 0, .int .i64 0, .string ⟨#[]⟩, .slice none 0 0, .slice none 0 0] 56)) (tG (nE ns)) (.slice none 0 0) (.slice ya ns.length yc)) := RV.move (fun b hb hl => ⟨by omega, hb⟩) bz.size (fun b _ hl => bz.block b hl) _ _ _ VN.out
            clear VN
            have VN : Hid (RV (fun b => b ≠ u4.heap.size ∧ b ≠ H + 1) (u4.alloc (.cells #[.int .i64 0, .int .i64 0, .string ⟨#[]⟩, .slice none 0 0, .slice none 0 0] 56)) (tG (nE ns)) (.slice none 0 0) (.slice ya ns.length yc)) := VN2.out
            clear VN2
            refine hK.out _ _ hS (fun hHeld => ?_)
            clear hK K hS
            clear bz
            generalize u4.alloc (.cells #[.int .i64 0, .int .i64 0, .string ⟨#[]⟩, .slice none 0 0, .slice none 0 0] 56) = a10 at *
            generalize u4.heap.size = da at *
            refine wpAnyH_ready (rs := [24]) (by kernel_rfl) (by simp) ?_
            refine AllReadyH.cons (o := _) rfl (fun K hK => ?_) AllReadyH.nil
            go_simp
            have b : Below a10.heap.size a10 (a10.alloc (.cells #[.string kM, .int .i64 4, .int .i64 0, .string ⟨#[]⟩, .slice none 0 0, .slice ya ns.length yc, .string kZ, .int .i64 (nI (sz != 0) sz).k, .int .i64 (nI (sz != 0) sz).n, .string (nI (sz != 0) sz).s, .slice none 0 0, .slice none 0 0, .string kQ, .int .i64 (nI (qu != 0) qu).k, .int .i64 (nI (qu != 0) qu).n, .string (nI (qu != 0) qu).s, .slice none 0 0, .slice none 0 0, .string kV, .int .i64 (sI ab ag).k, .int .i64 (sI ab ag).n, .string (sI ab ag).s, .slice none 0 0, .slice none 0 0] 59)) := (Below.refl _ _).alloc (Nat.le_refl _) _
            have DG1 : Hid ((a10.alloc (.cells #[.string kM, .int .i64 4, .int .i64 0, .string ⟨#[]⟩, .slice none 0 0, .slice ya ns.length yc, .string kZ, .int .i64 (nI (sz != 0) sz).k, .int .i64 (nI (sz != 0) sz).n, .string (nI (sz != 0) sz).s, .slice none 0 0, .slice none 0 0, .string kQ, .int .i64 (nI (qu != 0) qu).k, .int .i64 (nI (qu != 0) qu).n, .string (nI (qu != 0) qu).s, .slice none 0 0, .slice none 0 0, .string kV, .int .i64 (sI ab ag).k, .int .i64 (sI ab ag).n, .string (sI ab ag).s, .slice none 0 0, .slice none 0 0] 59)).heap[a10.heap.size]? = some (.cells (gCs (ownQ ns sz qu ag ab (.slice ya ns.length yc))).toArray 59 (0, 0))) := heap_new _ _
            have BW2 : Hid (Below w0.heap.size w0 (a10.alloc (.cells #[.string kM, .int .i64 4, .int .i64 0, .string ⟨#[]⟩, .slice none 0 0, .slice ya ns.length yc, .string kZ, .int .i64 (nI (sz != 0) sz).k, .int .i64 (nI (sz != 0) sz).n, .string (nI (sz != 0) sz).s, .slice none 0 0, .slice none 0 0, .string kQ, .int .i64 (nI (qu != 0) qu).k, .int .i64 (nI (qu != 0) qu).n, .string (nI (qu != 0) qu).s, .slice none 0 0, .slice none 0 0, .string kV, .int .i64 (sI ab ag).k, .int .i64 (sI ab ag).n, .string (sI ab ag).s, .slice none 0 0, .slice none 0 0] 59))) := BW.out.trans (b.mono BW.out.size)
            clear BW
            have BW : Hid (Below w0.heap.size w0 (a10.alloc (.cells #[.string kM, .int .i64 4, .int .i64 0, .string ⟨#[]⟩, .slice none 0 0, .slice ya ns.length yc, .string kZ, .int .i64 (nI (sz != 0) sz).k, .int .i64 (nI (sz != 0) sz).n, .string (nI (sz != 0) sz).s, .slice none 0 0, .slice none 0 0, .string kQ, .int .i64 (nI (qu != 0) qu).k, .int .i64 (nI (qu != 0) qu).n, .string (nI (qu != 0) qu).s, .slice none 0 0, .slice none 0 0, .string kV, .int .i64 (sI ab ag).k, .int .i64 (sI ab ag).n, .string (sI ab ag).s, .slice none 0 0, .slice none 0 0] 59))) := BW2.out
            clear BW2
            have VN2 : Hid (RV (fun b => b ≠ da ∧ b ≠ H + 1) (a10.alloc (.cells #[.string kM, .int .i64 4, .int .i64 0, .string ⟨#[]⟩, .slice none 0 0, .slice ya ns.length yc, .string kZ, .int .i64 (nI (sz != 0) sz).k, .int .i64 (nI (sz != 0) sz).n, .string (nI (sz != 0) sz).s, .slice none 0 0, .slice none 0 0, .string kQ, .int .i64 (nI (qu != 0) qu).k, .int .i64 (nI (qu != 0) qu).n, .string (nI (qu != 0) qu).s, .slice none 0 0, .slice none 0 0, .string kV, .int .i64 (sI ab ag).k, .int .i64 (sI ab ag).n, .string (sI ab ag).s, .slice none 0 0, .slice none 0 0] 59)) (tG (nE ns)) (.slice none 0 0) (.slice ya ns.length yc)) := RV.keep (fun _ h => h) b.size (fun q _ hl => b.block q hl) _ _ _ VN.out
            clear VN
            have VN : Hid (RV (fun b => b ≠ da ∧ b ≠ H + 1) (a10.alloc (.cells #[.string kM, .int .i64 4, .int .i64 0, .string ⟨#[]⟩, .slice none 0 0, .slice ya ns.length yc, .string kZ, .int .i64 (nI (sz != 0) sz).k, .int .i64 (nI (sz != 0) sz).n, .string (nI (sz != 0) sz).s, .slice none 0 0, .slice none 0 0, .string kQ, .int .i64 (nI (qu != 0) qu).k, .int .i64 (nI (qu != 0) qu).n, .string (nI (qu != 0) qu).s, .slice none 0 0, .slice none 0 0, .string kV, .int .i64 (sI ab ag).k, .int .i64 (sI ab ag).n, .string (sI ab ag).s, .slice none 0 0, .slice none 0 0] 59)) (tG (nE ns)) (.slice none 0 0) (.slice ya ns.length yc)) := VN2.out
            clear VN2
            have AD2 : Hid ((a10.alloc (.cells #[.string kM, .int .i64 4, .int .i64 0, .string ⟨#[]⟩, .slice none 0 0, .slice ya ns.length yc, .string kZ, .int .i64 (nI (sz != 0) sz).k, .int .i64 (nI (sz != 0) sz).n, .string (nI (sz != 0) sz).s, .slice none 0 0, .slice none 0 0, .string kQ, .int .i64 (nI (qu != 0) qu).k, .int .i64 (nI (qu != 0) qu).n, .string (nI (qu != 0) qu).s, .slice none 0 0, .slice none 0 0, .string kV, .int .i64 (sI ab ag).k, .int .i64 (sI ab ag).n, .string (sI ab ag).s, .slice none 0 0, .slice none 0 0] 59)).heap[da]? = some (.cells #[.int .i64 0, .int .i64 0, .string ⟨#[]⟩, .slice none 0 0, .slice none 0 0] 56 (0, 0)) ∧ w0.heap.size ≤ da) := ⟨(b.block da (Array.getElem?_eq_some_iff.1 AD.out.1).1).trans AD.out.1, AD.out.2⟩
            clear AD
            have AD : Hid ((a10.alloc (.cells #[.string kM, .int .i64 4, .int .i64 0, .string ⟨#[]⟩, .slice none 0 0, .slice ya ns.length yc, .string kZ, .int .i64 (nI (sz != 0) sz).k, .int .i64 (nI (sz != 0) sz).n, .string (nI (sz != 0) sz).s, .slice none 0 0, .slice none 0 0, .string kQ, .int .i64 (nI (qu != 0) qu).k, .int .i64 (nI (qu != 0) qu).n, .string (nI (qu != 0) qu).s, .slice none 0 0, .slice none 0 0, .string kV, .int .i64 (sI ab ag).k, .int .i64 (sI ab ag).n, .string (sI ab ag).s, .slice none 0 0, .slice none 0 0] 59)).heap[da]? = some (.cells #[.int .i64 0, .int .i64 0, .string ⟨#[]⟩, .slice none 0 0, .slice none 0 0] 56 (0, 0)) ∧ w0.heap.size ≤ da) := AD2.out
            clear AD2
            clear b
            have hS : BoxC H (a10.alloc (.cells #[.string kM, .int .i64 4, .int .i64 0, .string ⟨#[]⟩, .slice none 0 0, .slice ya ns.length yc, .string kZ, .int .i64 (nI (sz != 0) sz).k, .int .i64 (nI (sz != 0) sz).n, .string (nI (sz != 0) sz).s, .slice none 0 0, .slice none 0 0, .string kQ, .int .i64 (nI (qu != 0) qu).k, .int .i64 (nI (qu != 0) qu).n, .string (nI (qu != 0) qu).s, .slice none 0 0, .slice none 0 0, .string kV, .int .i64 (sI ab ag).k, .int .i64 (sI ab ag).n, .string (sI ab ag).s, .slice none 0 0, .slice none 0 0] 59)) na ma nc mc ns.length es.length sz qu ag := (HK.out (a10.alloc (.cells #[.string kM, .int .i64 4, .int .i64 0, .string ⟨#[]⟩, .slice none 0 0, .slice ya ns.length yc, .string kZ, .int .i64 (nI (sz != 0) sz).k, .int .i64 (nI (sz != 0) sz).n, .string (nI (sz != 0) sz).s, .slice none 0 0, .slice none 0 0, .string kQ, .int .i64 (nI (qu != 0) qu).k, .int .i64 (nI (qu != 0) qu).n, .string (nI (qu != 0) qu).s, .slice none 0 0, .slice none 0 0, .string kV, .int .i64 (sI ab ag).k, .int .i64 (sI ab ag).n, .string (sI ab ag).s, .slice none 0 0, .slice none 0 0] 59)) BW.out).box
            refine hK.out _ _ hS (fun hHeld => ?_)
            clear hK K hS
            generalize (a10.alloc (.cells #[.string kM, .int .i64 4, .int .i64 0, .string ⟨#[]⟩, .slice none 0 0, .slice ya ns.length yc, .string kZ, .int .i64 (nI (sz != 0) sz).k, .int .i64 (nI (sz != 0) sz).n, .string (nI (sz != 0) sz).s, .slice none 0 0, .slice none 0 0, .string kQ, .int .i64 (nI (qu != 0) qu).k, .int .i64 (nI (qu != 0) qu).n, .string (nI (qu != 0) qu).s, .slice none 0 0, .slice none 0 0, .string kV, .int .i64 (sI ab ag).k, .int .i64 (sI ab ag).n, .string (sI ab ag).s, .slice none 0 0, .slice none 0 0] 59)) = u11 at *
            generalize a10.heap.size = g5 at *
            refine wpAnyH_ready (rs := [25]) (by kernel_rfl) (by simp) ?_
            refine AllReadyH.cons (o := _) rfl (fun K hK => ?_) AllReadyH.nil
            go_simp
            refine (dictionary48 es (ownQ ns sz qu ag ab (.slice ya ns.length yc)) _ _ 4 u11 ((HK.out u11 BW.out).2.2.2.2.mono (by have := (HK.out u11 BW.out).2.2.1; omega)) (.inr ⟨g5, rfl, DG1.out⟩) (fun e he => RV.keep (fun _ _ => trivial) (Nat.le_refl _) (fun _ _ _ => rfl) _ _ _ (own_rv VN.out e he)) (by show es.length + 4 ≤ _; omega)).mono ?_
            rintro e u12 ⟨v', es', rfl, hld, hgr, b⟩
            obtain ⟨va, vc, rfl⟩ := hgr.form
            clear DG1
            have DG1 : Hid (LD es (ownQ ns sz qu ag ab (.slice ya ns.length yc)) es' ∧ GR (u11.heap.size + 1) u11.heap.size u12 (.slice va es'.length vc) es' ∧ (∀ g l c, Value.slice va es'.length vc = .slice (some ⟨g, 0, none⟩) l c → g ≠ da) ∧ H + 2 ≤ u11.heap.size + 1) := ⟨hld, hgr, fun g l c hg => by (have h8 := GR_ge hgr hg; have h7 := (Array.getElem?_eq_some_iff.1 AD.out.1).1; omega), by have h6 := (HK.out u11 BW.out).2.2.1; omega⟩
            have BW2 : Hid (Below w0.heap.size w0 u12) := BW.out.trans (b.mono BW.out.size)
            clear BW
            have BW : Hid (Below w0.heap.size w0 u12) := BW2.out
            clear BW2
            have VN2 : Hid (RV (fun b => b ≠ da ∧ b ≠ H + 1) u12 (tG (nE ns)) (.slice none 0 0) (.slice ya ns.length yc)) := RV.keep (fun _ h => h) b.size (fun q _ hl => b.block q hl) _ _ _ VN.out
            clear VN
            have VN : Hid (RV (fun b => b ≠ da ∧ b ≠ H + 1) u12 (tG (nE ns)) (.slice none 0 0) (.slice ya ns.length yc)) := VN2.out
            clear VN2
            have AD2 : Hid (u12.heap[da]? = some (.cells #[.int .i64 0, .int .i64 0, .string ⟨#[]⟩, .slice none 0 0, .slice none 0 0] 56 (0, 0)) ∧ w0.heap.size ≤ da) := ⟨(b.block da (Array.getElem?_eq_some_iff.1 AD.out.1).1).trans AD.out.1, AD.out.2⟩
            clear AD
            have AD : Hid (u12.heap[da]? = some (.cells #[.int .i64 0, .int .i64 0, .string ⟨#[]⟩, .slice none 0 0, .slice none 0 0] 56 (0, 0)) ∧ w0.heap.size ≤ da) := AD2.out
            clear AD2
            clear b hld hgr
            have hS : BoxC H u12 na ma nc mc ns.length es.length sz qu ag := (HK.out u12 BW.out).box
            go_wp2_with fail
            refine hK.out _ _ hS (fun hHeld => ?_)
            clear hK K hS
            generalize u11.heap.size + 1 = B5 at *
            generalize u11.heap.size = A5 at *
            have hR := AD.out.1
            have r0 : u12.cell? ⟨da, 0, none⟩ = some (.int .i64 0) := by simp [World.cell?, hR]
            have r1 : u12.cell? ⟨da, 1, none⟩ = some (.int .i64 0) := by simp [World.cell?, hR]
            have r2 : u12.cell? ⟨da, 2, none⟩ = some (.string ⟨#[]⟩) := by simp [World.cell?, hR]
            have r3 : u12.cell? ⟨da, 3, none⟩ = some (.slice none 0 0) := by simp [World.cell?, hR]
            have r4 : u12.cell? ⟨da, 4, none⟩ = some (.slice none 0 0) := by simp [World.cell?, hR]
            have f0 : ∀ j, u12.frozen? ⟨da, j, none⟩ = false := fun j => by simp [World.frozen?, hR]
            have z0 := f0 0
            have z1 := f0 1
            have z2 := f0 2
            have z3 := f0 3
            have z4 := f0 4
            clear hR f0
            have HWE : Hid (WF46 w0 (((((u12.setCell ⟨da, 0, none⟩ (.int .i64 4)).setCell ⟨da, 1, none⟩ (.int .i64 0)).setCell ⟨da, 2, none⟩ (.string ⟨#[]⟩)).setCell ⟨da, 3, none⟩ (.slice none 0 0)).setCell ⟨da, 4, none⟩ (.slice va es'.length vc)) H da na ma nc mc ns sz qu ag es (ownQ ns sz qu ag ab (.slice ya ns.length yc)) es' va vc) := WF46.of HWZ.out BW.out AD.out DG1.out VN.out
            have hS : BoxC H (((((u12.setCell ⟨da, 0, none⟩ (.int .i64 4)).setCell ⟨da, 1, none⟩ (.int .i64 0)).setCell ⟨da, 2, none⟩ (.string ⟨#[]⟩)).setCell ⟨da, 3, none⟩ (.slice none 0 0)).setCell ⟨da, 4, none⟩ (.slice va es'.length vc)) na ma nc mc ns.length es.length sz qu ag := HWE.out.2.2.1
            refine wpAnyH_ready (rs := [27]) (by kernel_rfl) (by simp) ?_
            refine AllReadyH.cons (o := _) rfl (fun K hK => ?_) AllReadyH.nil
            go_simp
            refine hK.out _ _ hS (fun hHeld => ?_)
            clear hK K hS
            refine wpAnyH_done (by kernel_rfl) ?_ _
            clear hHeld
            clear r0 r1 r2 r3 r4 z0 z1 z2 z3 z4 VN AD DG1 BW
            generalize (((((u12.setCell ⟨da, 0, none⟩ (.int .i64 4)).setCell ⟨da, 1, none⟩ (.int .i64 0)).setCell ⟨da, 2, none⟩ (.string ⟨#[]⟩)).setCell ⟨da, 3, none⟩ (.slice none 0 0)).setCell ⟨da, 4, none⟩ (.slice va es'.length vc)) = wF at *
            have HD : Hid (∀ x, Below wF.heap.size wF x → x.cell? ⟨da, 0, none⟩ = some (.int .i64 4) ∧ x.cell? ⟨da, 1, none⟩ = some (.int .i64 0) ∧ x.cell? ⟨da, 2, none⟩ = some (.string ⟨#[]⟩) ∧ x.cell? ⟨da, 3, none⟩ = some (.slice none 0 0) ∧ x.cell? ⟨da, 4, none⟩ = some (.slice va es'.length vc)) := fun x hx => by
              have e9 : x.heap[da]? = _ := (hx.block da (Array.getElem?_eq_some_iff.1 HWE.out.2.2.2.2.1).1).trans HWE.out.2.2.2.2.1
              refine ⟨?_, ?_, ?_, ?_, ?_⟩ <;> simp [World.cell?, e9]
            have HOK : Hid ((tG es').ok) := tG_ok (by have h9 := HWE.out.1.len; simp only [ownQ, List.length_cons, List.length_nil] at h9; omega) (fun e he => (HWE.out.1.mem e he).elim (hke e) (own_ok (by omega) hkn hka e))
            have HV := Lib.hid (valid32G es' va vc wF.drew HOK.out (rd_keep (belowDrew1 wF) (fun _ _ => trivial) HWE.out.2.1))
            go_upto_region 4 with fail
            refine wp_region_held_drew (S := fun x => x.cell? ⟨da, 0, none⟩ = some (.int .i64 4) ∧ x.cell? ⟨da, 1, none⟩ = some (.int .i64 0) ∧ x.cell? ⟨da, 2, none⟩ = some (.string ⟨#[]⟩) ∧ x.cell? ⟨da, 3, none⟩ = some (.slice none 0 0) ∧ x.cell? ⟨da, 4, none⟩ = some (.slice va es'.length vc)) (by kernel_rfl) (HD.out _ (belowDrew1 wF)) (fun hHeld => ?_)
            refine wpAnyH_take (i := 0) (v := .agg #[.int .i64 4, .int .i64 0, .string ⟨#[]⟩, .slice none 0 0, .slice va es'.length vc]) rfl (by kernel_rfl) (by kernel_rfl) (by kernel_rfl) (fun _ _ _ h => h) (Or.inl ⟨by rfl, fun w hw => by obtain ⟨s0, s1, s2, s3, s4⟩ := hw; go_simp⟩) hHeld ?_
            simp only [Act.put, List.getElem_toArray, List.getElem_cons_zero, List.setIfInBounds_toArray, List.set_cons_zero, List.set_cons_succ]
            refine wpAnyH_take (i := 1) (v := .agg #[.int .i64 4, .int .i64 0, .string ⟨#[]⟩, .slice none 0 0, .slice va es'.length vc]) rfl (by kernel_rfl) (by kernel_rfl) (by kernel_rfl) (fun _ _ _ h => h) (Or.inl ⟨by rfl, fun w hw => by obtain ⟨s0, s1, s2, s3, s4⟩ := hw; go_simp⟩) hHeld ?_
            simp only [Act.put, List.getElem_toArray, List.getElem_cons_zero, List.getElem_cons_succ, List.setIfInBounds_toArray, List.set_cons_zero, List.set_cons_succ]
            refine wpAnyH_ready (rs := [2]) (by kernel_rfl) (by simp) ?_
            refine AllReadyH.cons (o := _) rfl (fun K hK => ?_) AllReadyH.nil
            go_simp
            refine HV.out.mono ?_
            rintro e wv ⟨rfl, b⟩
            have BV : Hid (Below wF.heap.size wF wv) := (belowDrew1 wF).trans (b.mono (Nat.le_refl _))
            have hS := HD.out wv BV.out
            clear b
            generalize hkk : wk (tG es') 0 = kk
            go_wp2_with fail
            refine hK.out _ _ hS (fun hHeld => ?_)
            clear hK K
            refine wpAnyH_take (i := 3) (v := .bool (kk == 0)) rfl (by kernel_rfl) (by kernel_rfl) (by kernel_rfl) (fun _ _ _ h => h) (Or.inl ⟨by rfl, fun w hw => by go_simp⟩) hHeld ?_
            simp only [Act.put, List.getElem_toArray, List.getElem_cons_zero, List.getElem_cons_succ, List.setIfInBounds_toArray, List.set_cons_zero, List.set_cons_succ]
            have hR := (HK.out wv (HWE.out.2.2.2.1.trans (BV.out.mono HWE.out.2.2.2.1.size))).2.1
            have r0 : wv.cell? ⟨H + 1, 0, none⟩ = some (.int .i64 0) := by simp [World.cell?, hR]
            have r1 : wv.cell? ⟨H + 1, 1, none⟩ = some (.int .i64 0) := by simp [World.cell?, hR]
            have r2 : wv.cell? ⟨H + 1, 2, none⟩ = some (.string ⟨#[]⟩) := by simp [World.cell?, hR]
            have r3 : wv.cell? ⟨H + 1, 3, none⟩ = some (.slice none 0 0) := by simp [World.cell?, hR]
            have r4 : wv.cell? ⟨H + 1, 4, none⟩ = some (.slice none 0 0) := by simp [World.cell?, hR]
            have f0 : ∀ j, wv.frozen? ⟨H + 1, j, none⟩ = false := fun j => by simp [World.frozen?, hR]
            have z0 := f0 0
            have z1 := f0 1
            have z2 := f0 2
            have z3 := f0 3
            have z4 := f0 4
            have HRR := Lib.hid hR
            clear hR f0
            have hS2 : (((((wv.setCell ⟨H + 1, 0, none⟩ (.int .i64 4)).setCell ⟨H + 1, 1, none⟩ (.int .i64 0)).setCell ⟨H + 1, 2, none⟩ (.string ⟨#[]⟩)).setCell ⟨H + 1, 3, none⟩ (.slice none 0 0)).setCell ⟨H + 1, 4, none⟩ (.slice va es'.length vc)).cell? ⟨da, 0, none⟩ = some (.int .i64 4) ∧ (((((wv.setCell ⟨H + 1, 0, none⟩ (.int .i64 4)).setCell ⟨H + 1, 1, none⟩ (.int .i64 0)).setCell ⟨H + 1, 2, none⟩ (.string ⟨#[]⟩)).setCell ⟨H + 1, 3, none⟩ (.slice none 0 0)).setCell ⟨H + 1, 4, none⟩ (.slice va es'.length vc)).cell? ⟨da, 1, none⟩ = some (.int .i64 0) ∧ (((((wv.setCell ⟨H + 1, 0, none⟩ (.int .i64 4)).setCell ⟨H + 1, 1, none⟩ (.int .i64 0)).setCell ⟨H + 1, 2, none⟩ (.string ⟨#[]⟩)).setCell ⟨H + 1, 3, none⟩ (.slice none 0 0)).setCell ⟨H + 1, 4, none⟩ (.slice va es'.length vc)).cell? ⟨da, 2, none⟩ = some (.string ⟨#[]⟩) ∧ (((((wv.setCell ⟨H + 1, 0, none⟩ (.int .i64 4)).setCell ⟨H + 1, 1, none⟩ (.int .i64 0)).setCell ⟨H + 1, 2, none⟩ (.string ⟨#[]⟩)).setCell ⟨H + 1, 3, none⟩ (.slice none 0 0)).setCell ⟨H + 1, 4, none⟩ (.slice va es'.length vc)).cell? ⟨da, 3, none⟩ = some (.slice none 0 0) ∧ (((((wv.setCell ⟨H + 1, 0, none⟩ (.int .i64 4)).setCell ⟨H + 1, 1, none⟩ (.int .i64 0)).setCell ⟨H + 1, 2, none⟩ (.string ⟨#[]⟩)).setCell ⟨H + 1, 3, none⟩ (.slice none 0 0)).setCell ⟨H + 1, 4, none⟩ (.slice va es'.length vc)).cell? ⟨da, 4, none⟩ = some (.slice va es'.length vc) := by
              have e8 := (besides5 wv (H + 1) (.int .i64 4) (.int .i64 0) (.string ⟨#[]⟩) (.slice none 0 0) (.slice va es'.length vc)).block da (Nat.lt_of_lt_of_le (Array.getElem?_eq_some_iff.1 HWE.out.2.2.2.2.1).1 BV.out.size) (by have h6 := HWE.out.2.2.2.2.2; have h5 := HWZ.out.2.2.1; omega)
              refine ⟨(World.cell?_of_block (w := wv) (a := ⟨da, 0, none⟩) e8).trans hS.1, (World.cell?_of_block (w := wv) (a := ⟨da, 1, none⟩) e8).trans hS.2.1, (World.cell?_of_block (w := wv) (a := ⟨da, 2, none⟩) e8).trans hS.2.2.1, (World.cell?_of_block (w := wv) (a := ⟨da, 3, none⟩) e8).trans hS.2.2.2.1, (World.cell?_of_block (w := wv) (a := ⟨da, 4, none⟩) e8).trans hS.2.2.2.2⟩
            refine wpAnyH_ready (rs := [4]) (by kernel_rfl) (by simp) ?_
            refine AllReadyH.cons (o := _) rfl (fun K hK => ?_) AllReadyH.nil
            go_simp
            refine hK.out _ _ hS2 (fun hHeld => ?_)
            clear hK K
            refine wpAnyH_ready (rs := [5]) (by kernel_rfl) (by simp) ?_
            refine AllReadyH.cons (o := _) rfl (fun K hK => ?_) AllReadyH.nil
            go_simp
            refine hK.out _ _ hS2 (fun hHeld => ?_)
            clear hK K
            refine wpAnyH_done (by kernel_rfl) ?_ _
            clear hHeld
            clear hS hS2 r0 r1 r2 r3 r4 z0 z1 z2 z3 z4
            go_wp2
            refine bodyPost_ret (v := .tuple #[.agg #[.int .i64 4, .int .i64 0, .string ⟨#[]⟩, .slice none 0 0, .slice va es'.length vc], .bool (kk == 0)]) (results_cell2 Try.results46 _ _ (H + 1) _ rfl (ow.set (ow.set (ow.set (ow.set (ow.set HRR.out 0 _) 1 _) 2 _) 3 _) 4 _) rfl) rfl ⟨.slice ya ns.length yc, .slice va es'.length vc, es', by rw [hkk], ?_, ?_, ?_⟩
            · rw [show ownP ns sz qu ag (.slice ya ns.length yc) = ownQ ns sz qu ag ab (.slice ya ns.length yc) by unfold ownP; rw [HAB.out]]
              exact HWE.out.1
            · exact ⟨⟨none, 0, rfl, .inl rfl⟩, rd_besides (besides5 _ _ _ _ _ _ _) (rd_keep BV.out (fun _ h => h) HWE.out.2.1)⟩
            · rw [HS.out]
              exact below5 (HB0.out.trans ((HWE.out.2.2.2.1.trans (BV.out.mono HWE.out.2.2.2.1.size)).mono (by have h5 := HWZ.out.2.2.1; omega))) (by omega) _ _ _ _ _
        · go_simp
          have bz : Below u3.heap.size u3 (u3.alloc (.cells #[.int .i64 0, .int .i64 0, .string ⟨#[]⟩, .slice none 0 0, .slice none 0 0] 56)) := (Below.refl _ _).alloc (Nat.le_refl _) _
          have AD : Hid ((u3.alloc (.cells #[.int .i64 0, .int .i64 0, .string ⟨#[]⟩, .slice none 0 0, .slice none 0 0] 56)).heap[u3.heap.size]? = some (.cells #[.int .i64 0, .int .i64 0, .string ⟨#[]⟩, .slice none 0 0, .slice none 0 0] 56 (0, 0)) ∧ w0.heap.size ≤ u3.heap.size) := ⟨heap_new _ _, BW.out.size⟩
          have BW2 : Hid (Below w0.heap.size w0 (u3.alloc (.cells #[.int .i64 0, .int .i64 0, .string ⟨#[]⟩, .slice none 0 0, .slice none 0 0] 56))) := BW.out.trans (bz.mono BW.out.size)
          clear BW
          have BW : Hid (Below w0.heap.size w0 (u3.alloc (.cells #[.int .i64 0, .int .i64 0, .string ⟨#[]⟩, .slice none 0 0, .slice none 0 0] 56))) := BW2.out
          clear BW2
          have hS : BoxC H (u3.alloc (.cells #[.int .i64 0, .int .i64 0, .string ⟨#[]⟩, .slice none 0 0, .slice none 0 0] 56)) na ma nc mc ns.length es.length sz qu ag := (HK.out (u3.alloc (.cells #[.int .i64 0, .int .i64 0, .string ⟨#[]⟩, .slice none 0 0, .slice none 0 0] 56)) BW.out).box
          have VN2 : Hid (RV (fun b => b ≠ u3.heap.size ∧ b ≠ H + 1) (u3.alloc (.cells #[.int .i64 0, .int .i64 0, .string ⟨#[]⟩, .slice none 0 0, .slice none 0 0] 56)) (tG (nE ns)) (.slice none 0 0) (.slice ya ns.length yc)) := RV.move (fun b hb hl => ⟨by omega, hb⟩) bz.size (fun b _ hl => bz.block b hl) _ _ _ VN.out
          clear VN
          have VN : Hid (RV (fun b => b ≠ u3.heap.size ∧ b ≠ H + 1) (u3.alloc (.cells #[.int .i64 0, .int .i64 0, .string ⟨#[]⟩, .slice none 0 0, .slice none 0 0] 56)) (tG (nE ns)) (.slice none 0 0) (.slice ya ns.length yc)) := VN2.out
          clear VN2
          refine hK.out _ _ hS (fun hHeld => ?_)
          clear hK K hS
          clear bz
          generalize u3.alloc (.cells #[.int .i64 0, .int .i64 0, .string ⟨#[]⟩, .slice none 0 0, .slice none 0 0] 56) = a13 at *
          generalize u3.heap.size = da at *
          refine wpAnyH_ready (rs := [23]) (by kernel_rfl) (by simp) ?_
          refine AllReadyH.cons (o := _) rfl (fun K hK => ?_) AllReadyH.nil
          go_simp
          refine (textIf59x ab kV ag a13).mono ?_
          rintro e u14 ⟨rfl, b⟩
          have BW2 : Hid (Below w0.heap.size w0 u14) := BW.out.trans (b.mono BW.out.size)
          clear BW
          have BW : Hid (Below w0.heap.size w0 u14) := BW2.out
          clear BW2
          have VN2 : Hid (RV (fun b => b ≠ da ∧ b ≠ H + 1) u14 (tG (nE ns)) (.slice none 0 0) (.slice ya ns.length yc)) := RV.keep (fun _ h => h) b.size (fun q _ hl => b.block q hl) _ _ _ VN.out
          clear VN
          have VN : Hid (RV (fun b => b ≠ da ∧ b ≠ H + 1) u14 (tG (nE ns)) (.slice none 0 0) (.slice ya ns.length yc)) := VN2.out
          clear VN2
          have AD2 : Hid (u14.heap[da]? = some (.cells #[.int .i64 0, .int .i64 0, .string ⟨#[]⟩, .slice none 0 0, .slice none 0 0] 56 (0, 0)) ∧ w0.heap.size ≤ da) := ⟨(b.block da (Array.getElem?_eq_some_iff.1 AD.out.1).1).trans AD.out.1, AD.out.2⟩
          clear AD
          have AD : Hid (u14.heap[da]? = some (.cells #[.int .i64 0, .int .i64 0, .string ⟨#[]⟩, .slice none 0 0, .slice none 0 0] 56 (0, 0)) ∧ w0.heap.size ≤ da) := AD2.out
          clear AD2
          clear b
          have hS : BoxC H u14 na ma nc mc ns.length es.length sz qu ag := (HK.out u14 BW.out).box
          go_wp2_with fail
          refine hK.out _ _ hS (fun hHeld => ?_)
          clear hK K hS
          refine wpAnyH_ready (rs := [24]) (by kernel_rfl) (by simp) ?_
          refine AllReadyH.cons (o := _) rfl (fun K hK => ?_) AllReadyH.nil
          go_simp
          have b : Below u14.heap.size u14 (u14.alloc (.cells #[.string kM, .int .i64 4, .int .i64 0, .string ⟨#[]⟩, .slice none 0 0, .slice ya ns.length yc, .string kZ, .int .i64 (nI (sz != 0) sz).k, .int .i64 (nI (sz != 0) sz).n, .string (nI (sz != 0) sz).s, .slice none 0 0, .slice none 0 0, .string kQ, .int .i64 (nI (qu != 0) qu).k, .int .i64 (nI (qu != 0) qu).n, .string (nI (qu != 0) qu).s, .slice none 0 0, .slice none 0 0, .string kV, .int .i64 (sI ab ag).k, .int .i64 (sI ab ag).n, .string (sI ab ag).s, .slice none 0 0, .slice none 0 0] 59)) := (Below.refl _ _).alloc (Nat.le_refl _) _
          have DG1 : Hid ((u14.alloc (.cells #[.string kM, .int .i64 4, .int .i64 0, .string ⟨#[]⟩, .slice none 0 0, .slice ya ns.length yc, .string kZ, .int .i64 (nI (sz != 0) sz).k, .int .i64 (nI (sz != 0) sz).n, .string (nI (sz != 0) sz).s, .slice none 0 0, .slice none 0 0, .string kQ, .int .i64 (nI (qu != 0) qu).k, .int .i64 (nI (qu != 0) qu).n, .string (nI (qu != 0) qu).s, .slice none 0 0, .slice none 0 0, .string kV, .int .i64 (sI ab ag).k, .int .i64 (sI ab ag).n, .string (sI ab ag).s, .slice none 0 0, .slice none 0 0] 59)).heap[u14.heap.size]? = some (.cells (gCs (ownQ ns sz qu ag ab (.slice ya ns.length yc))).toArray 59 (0, 0))) := heap_new _ _
          have BW2 : Hid (Below w0.heap.size w0 (u14.alloc (.cells #[.string kM, .int .i64 4, .int .i64 0, .string ⟨#[]⟩, .slice none 0 0, .slice ya ns.length yc, .string kZ, .int .i64 (nI (sz != 0) sz).k, .int .i64 (nI (sz != 0) sz).n, .string (nI (sz != 0) sz).s, .slice none 0 0, .slice none 0 0, .string kQ, .int .i64 (nI (qu != 0) qu).k, .int .i64 (nI (qu != 0) qu).n, .string (nI (qu != 0) qu).s, .slice none 0 0, .slice none 0 0, .string kV, .int .i64 (sI ab ag).k, .int .i64 (sI ab ag).n, .string (sI ab ag).s, .slice none 0 0, .slice none 0 0] 59))) := BW.out.trans (b.mono BW.out.size)
          clear BW
          have BW : Hid (Below w0.heap.size w0 (u14.alloc (.cells #[.string kM, .int .i64 4, .int .i64 0, .string ⟨#[]⟩, .slice none 0 0, .slice ya ns.length yc, .string kZ, .int .i64 (nI (sz != 0) sz).k, .int .i64 (nI (sz != 0) sz).n, .string (nI (sz != 0) sz).s, .slice none 0 0, .slice none 0 0, .string kQ, .int .i64 (nI (qu != 0) qu).k, .int .i64 (nI (qu != 0) qu).n, .string (nI (qu != 0) qu).s, .slice none 0 0, .slice none 0 0, .string kV, .int .i64 (sI ab ag).k, .int .i64 (sI ab ag).n, .string (sI ab ag).s, .slice none 0 0, .slice none 0 0] 59))) := BW2.out
          clear BW2
          have VN2 : Hid (RV (fun b => b ≠ da ∧ b ≠ H + 1) (u14.alloc (.cells #[.string kM, .int .i64 4, .int .i64 0, .string ⟨#[]⟩, .slice none 0 0, .slice ya ns.length yc, .string kZ, .int .i64 (nI (sz != 0) sz).k, .int .i64 (nI (sz != 0) sz).n, .string (nI (sz != 0) sz).s, .slice none 0 0, .slice none 0 0, .string kQ, .int .i64 (nI (qu != 0) qu).k, .int .i64 (nI (qu != 0) qu).n, .string (nI (qu != 0) qu).s, .slice none 0 0, .slice none 0 0, .string kV, .int .i64 (sI ab ag).k, .int .i64 (sI ab ag).n, .string (sI ab ag).s, .slice none 0 0, .slice none 0 0] 59)) (tG (nE ns)) (.slice none 0 0) (.slice ya ns.length yc)) := RV.keep (fun _ h => h) b.size (fun q _ hl => b.block q hl) _ _ _ VN.out
          clear VN
          have VN : Hid (RV (fun b => b ≠ da ∧ b ≠ H + 1) (u14.alloc (.cells #[.string kM, .int .i64 4, .int .i64 0, .string ⟨#[]⟩, .slice none 0 0, .slice ya ns.length yc, .string kZ, .int .i64 (nI (sz != 0) sz).k, .int .i64 (nI (sz != 0) sz).n, .string (nI (sz != 0) sz).s, .slice none 0 0, .slice none 0 0, .string kQ, .int .i64 (nI (qu != 0) qu).k, .int .i64 (nI (qu != 0) qu).n, .string (nI (qu != 0) qu).s, .slice none 0 0, .slice none 0 0, .string kV, .int .i64 (sI ab ag).k, .int .i64 (sI ab ag).n, .string (sI ab ag).s, .slice none 0 0, .slice none 0 0] 59)) (tG (nE ns)) (.slice none 0 0) (.slice ya ns.length yc)) := VN2.out
          clear VN2
          have AD2 : Hid ((u14.alloc (.cells #[.string kM, .int .i64 4, .int .i64 0, .string ⟨#[]⟩, .slice none 0 0, .slice ya ns.length yc, .string kZ, .int .i64 (nI (sz != 0) sz).k, .int .i64 (nI (sz != 0) sz).n, .string (nI (sz != 0) sz).s, .slice none 0 0, .slice none 0 0, .string kQ, .int .i64 (nI (qu != 0) qu).k, .int .i64 (nI (qu != 0) qu).n, .string (nI (qu != 0) qu).s, .slice none 0 0, .slice none 0 0, .string kV, .int .i64 (sI ab ag).k, .int .i64 (sI ab ag).n, .string (sI ab ag).s, .slice none 0 0, .slice none 0 0] 59)).heap[da]? = some (.cells #[.int .i64 0, .int .i64 0, .string ⟨#[]⟩, .slice none 0 0, .slice none 0 0] 56 (0, 0)) ∧ w0.heap.size ≤ da) := ⟨(b.block da (Array.getElem?_eq_some_iff.1 AD.out.1).1).trans AD.out.1, AD.out.2⟩
          clear AD
          have AD : Hid ((u14.alloc (.cells #[.string kM, .int .i64 4, .int .i64 0, .string ⟨#[]⟩, .slice none 0 0, .slice ya ns.length yc, .string kZ, .int .i64 (nI (sz != 0) sz).k, .int .i64 (nI (sz != 0) sz).n, .string (nI (sz != 0) sz).s, .slice none 0 0, .slice none 0 0, .string kQ, .int .i64 (nI (qu != 0) qu).k, .int .i64 (nI (qu != 0) qu).n, .string (nI (qu != 0) qu).s, .slice none 0 0, .slice none 0 0, .string kV, .int .i64 (sI ab ag).k, .int .i64 (sI ab ag).n, .string (sI ab ag).s, .slice none 0 0, .slice none 0 0] 59)).heap[da]? = some (.cells #[.int .i64 0, .int .i64 0, .string ⟨#[]⟩, .slice none 0 0, .slice none 0 0] 56 (0, 0)) ∧ w0.heap.size ≤ da) := AD2.out
          clear AD2
          clear b
          have hS : BoxC H (u14.alloc (.cells #[.string kM, .int .i64 4, .int .i64 0, .string ⟨#[]⟩, .slice none 0 0, .slice ya ns.length yc, .string kZ, .int .i64 (nI (sz != 0) sz).k, .int .i64 (nI (sz != 0) sz).n, .string (nI (sz != 0) sz).s, .slice none 0 0, .slice none 0 0, .string kQ, .int .i64 (nI (qu != 0) qu).k, .int .i64 (nI (qu != 0) qu).n, .string (nI (qu != 0) qu).s, .slice none 0 0, .slice none 0 0, .string kV, .int .i64 (sI ab ag).k, .int .i64 (sI ab ag).n, .string (sI ab ag).s, .slice none 0 0, .slice none 0 0] 59)) na ma nc mc ns.length es.length sz qu ag := (HK.out (u14.alloc (.cells #[.string kM, .int .i64 4, .int .i64 0, .string ⟨#[]⟩, .slice none 0 0, .slice ya ns.length yc, .string kZ, .int .i64 (nI (sz != 0) sz).k, .int .i64 (nI (sz != 0) sz).n, .string (nI (sz != 0) sz).s, .slice none 0 0, .slice none 0 0, .string kQ, .int .i64 (nI (qu != 0) qu).k, .int .i64 (nI (qu != 0) qu).n, .string (nI (qu != 0) qu).s, .slice none 0 0, .slice none 0 0, .string kV, .int .i64 (sI ab ag).k, .int .i64 (sI ab ag).n, .string (sI ab ag).s, .slice none 0 0, .slice none 0 0] 59)) BW.out).box
          refine hK.out _ _ hS (fun hHeld => ?_)
          clear hK K hS
          generalize (u14.alloc (.cells #[.string kM, .int .i64 4, .int .i64 0, .string ⟨#[]⟩, .slice none 0 0, .slice ya ns.length yc, .string kZ, .int .i64 (nI (sz != 0) sz).k, .int .i64 (nI (sz != 0) sz).n, .string (nI (sz != 0) sz).s, .slice none 0 0, .slice none 0 0, .string kQ, .int .i64 (nI (qu != 0) qu).k, .int .i64 (nI (qu != 0) qu).n, .string (nI (qu != 0) qu).s, .slice none 0 0, .slice none 0 0, .string kV, .int .i64 (sI ab ag).k, .int .i64 (sI ab ag).n, .string (sI ab ag).s, .slice none 0 0, .slice none 0 0] 59)) = u15 at *
          generalize u14.heap.size = g5 at *
          refine wpAnyH_ready (rs := [25]) (by kernel_rfl) (by simp) ?_
          refine AllReadyH.cons (o := _) rfl (fun K hK => ?_) AllReadyH.nil
          go_simp
          refine (dictionary48 es (ownQ ns sz qu ag ab (.slice ya ns.length yc)) _ _ 4 u15 ((HK.out u15 BW.out).2.2.2.2.mono (by have := (HK.out u15 BW.out).2.2.1; omega)) (.inr ⟨g5, rfl, DG1.out⟩) (fun e he => RV.keep (fun _ _ => trivial) (Nat.le_refl _) (fun _ _ _ => rfl) _ _ _ (own_rv VN.out e he)) (by show es.length + 4 ≤ _; omega)).mono ?_
          rintro e u16 ⟨v', es', rfl, hld, hgr, b⟩
          obtain ⟨va, vc, rfl⟩ := hgr.form
          clear DG1
          have DG1 : Hid (LD es (ownQ ns sz qu ag ab (.slice ya ns.length yc)) es' ∧ GR (u15.heap.size + 1) u15.heap.size u16 (.slice va es'.length vc) es' ∧ (∀ g l c, Value.slice va es'.length vc = .slice (some ⟨g, 0, none⟩) l c → g ≠ da) ∧ H + 2 ≤ u15.heap.size + 1) := ⟨hld, hgr, fun g l c hg => by (have h8 := GR_ge hgr hg; have h7 := (Array.getElem?_eq_some_iff.1 AD.out.1).1; omega), by have h6 := (HK.out u15 BW.out).2.2.1; omega⟩
          have BW2 : Hid (Below w0.heap.size w0 u16) := BW.out.trans (b.mono BW.out.size)
          clear BW
          have BW : Hid (Below w0.heap.size w0 u16) := BW2.out
          clear BW2
          have VN2 : Hid (RV (fun b => b ≠ da ∧ b ≠ H + 1) u16 (tG (nE ns)) (.slice none 0 0) (.slice ya ns.length yc)) := RV.keep (fun _ h => h) b.size (fun q _ hl => b.block q hl) _ _ _ VN.out
          clear VN
          have VN : Hid (RV (fun b => b ≠ da ∧ b ≠ H + 1) u16 (tG (nE ns)) (.slice none 0 0) (.slice ya ns.length yc)) := VN2.out
          clear VN2
          have AD2 : Hid (u16.heap[da]? = some (.cells #[.int .i64 0, .int .i64 0, .string ⟨#[]⟩, .slice none 0 0, .slice none 0 0] 56 (0, 0)) ∧ w0.heap.size ≤ da) := ⟨(b.block da (Array.getElem?_eq_some_iff.1 AD.out.1).1).trans AD.out.1, AD.out.2⟩
          clear AD
          have AD : Hid (u16.heap[da]? = some (.cells #[.int .i64 0, .int .i64 0, .string ⟨#[]⟩, .slice none 0 0, .slice none 0 0] 56 (0, 0)) ∧ w0.heap.size ≤ da) := AD2.out
          clear AD2
          clear b hld hgr
          have hS : BoxC H u16 na ma nc mc ns.length es.length sz qu ag := (HK.out u16 BW.out).box
          go_wp2_with fail
          refine hK.out _ _ hS (fun hHeld => ?_)
          clear hK K hS
          generalize u15.heap.size + 1 = B5 at *
          generalize u15.heap.size = A5 at *
          have hR := AD.out.1
          have r0 : u16.cell? ⟨da, 0, none⟩ = some (.int .i64 0) := by simp [World.cell?, hR]
          have r1 : u16.cell? ⟨da, 1, none⟩ = some (.int .i64 0) := by simp [World.cell?, hR]
          have r2 : u16.cell? ⟨da, 2, none⟩ = some (.string ⟨#[]⟩) := by simp [World.cell?, hR]
          have r3 : u16.cell? ⟨da, 3, none⟩ = some (.slice none 0 0) := by simp [World.cell?, hR]
          have r4 : u16.cell? ⟨da, 4, none⟩ = some (.slice none 0 0) := by simp [World.cell?, hR]
          have f0 : ∀ j, u16.frozen? ⟨da, j, none⟩ = false := fun j => by simp [World.frozen?, hR]
          have z0 := f0 0
          have z1 := f0 1
          have z2 := f0 2
          have z3 := f0 3
          have z4 := f0 4
          clear hR f0
          have HWE : Hid (WF46 w0 (((((u16.setCell ⟨da, 0, none⟩ (.int .i64 4)).setCell ⟨da, 1, none⟩ (.int .i64 0)).setCell ⟨da, 2, none⟩ (.string ⟨#[]⟩)).setCell ⟨da, 3, none⟩ (.slice none 0 0)).setCell ⟨da, 4, none⟩ (.slice va es'.length vc)) H da na ma nc mc ns sz qu ag es (ownQ ns sz qu ag ab (.slice ya ns.length yc)) es' va vc) := WF46.of HWZ.out BW.out AD.out DG1.out VN.out
          have hS : BoxC H (((((u16.setCell ⟨da, 0, none⟩ (.int .i64 4)).setCell ⟨da, 1, none⟩ (.int .i64 0)).setCell ⟨da, 2, none⟩ (.string ⟨#[]⟩)).setCell ⟨da, 3, none⟩ (.slice none 0 0)).setCell ⟨da, 4, none⟩ (.slice va es'.length vc)) na ma nc mc ns.length es.length sz qu ag := HWE.out.2.2.1
          refine wpAnyH_ready (rs := [27]) (by kernel_rfl) (by simp) ?_
          refine AllReadyH.cons (o := _) rfl (fun K hK => ?_) AllReadyH.nil
          go_simp
          refine hK.out _ _ hS (fun hHeld => ?_)
          clear hK K hS
          refine wpAnyH_done (by kernel_rfl) ?_ _
          clear hHeld
          clear r0 r1 r2 r3 r4 z0 z1 z2 z3 z4 VN AD DG1 BW
          generalize (((((u16.setCell ⟨da, 0, none⟩ (.int .i64 4)).setCell ⟨da, 1, none⟩ (.int .i64 0)).setCell ⟨da, 2, none⟩ (.string ⟨#[]⟩)).setCell ⟨da, 3, none⟩ (.slice none 0 0)).setCell ⟨da, 4, none⟩ (.slice va es'.length vc)) = wF at *
          have HD : Hid (∀ x, Below wF.heap.size wF x → x.cell? ⟨da, 0, none⟩ = some (.int .i64 4) ∧ x.cell? ⟨da, 1, none⟩ = some (.int .i64 0) ∧ x.cell? ⟨da, 2, none⟩ = some (.string ⟨#[]⟩) ∧ x.cell? ⟨da, 3, none⟩ = some (.slice none 0 0) ∧ x.cell? ⟨da, 4, none⟩ = some (.slice va es'.length vc)) := fun x hx => by
            have e9 : x.heap[da]? = _ := (hx.block da (Array.getElem?_eq_some_iff.1 HWE.out.2.2.2.2.1).1).trans HWE.out.2.2.2.2.1
            refine ⟨?_, ?_, ?_, ?_, ?_⟩ <;> simp [World.cell?, e9]
          have HOK : Hid ((tG es').ok) := tG_ok (by have h9 := HWE.out.1.len; simp only [ownQ, List.length_cons, List.length_nil] at h9; omega) (fun e he => (HWE.out.1.mem e he).elim (hke e) (own_ok (by omega) hkn hka e))
          have HV := Lib.hid (valid32G es' va vc wF.drew HOK.out (rd_keep (belowDrew1 wF) (fun _ _ => trivial) HWE.out.2.1))
          go_upto_region 4 with fail
          refine wp_region_held_drew (S := fun x => x.cell? ⟨da, 0, none⟩ = some (.int .i64 4) ∧ x.cell? ⟨da, 1, none⟩ = some (.int .i64 0) ∧ x.cell? ⟨da, 2, none⟩ = some (.string ⟨#[]⟩) ∧ x.cell? ⟨da, 3, none⟩ = some (.slice none 0 0) ∧ x.cell? ⟨da, 4, none⟩ = some (.slice va es'.length vc)) (by kernel_rfl) (HD.out _ (belowDrew1 wF)) (fun hHeld => ?_)
          refine wpAnyH_take (i := 0) (v := .agg #[.int .i64 4, .int .i64 0, .string ⟨#[]⟩, .slice none 0 0, .slice va es'.length vc]) rfl (by kernel_rfl) (by kernel_rfl) (by kernel_rfl) (fun _ _ _ h => h) (Or.inl ⟨by rfl, fun w hw => by obtain ⟨s0, s1, s2, s3, s4⟩ := hw; go_simp⟩) hHeld ?_
          simp only [Act.put, List.getElem_toArray, List.getElem_cons_zero, List.setIfInBounds_toArray, List.set_cons_zero, List.set_cons_succ]
          refine wpAnyH_take (i := 1) (v := .agg #[.int .i64 4, .int .i64 0, .string ⟨#[]⟩, .slice none 0 0, .slice va es'.length vc]) rfl (by kernel_rfl) (by kernel_rfl) (by kernel_rfl) (fun _ _ _ h => h) (Or.inl ⟨by rfl, fun w hw => by obtain ⟨s0, s1, s2, s3, s4⟩ := hw; go_simp⟩) hHeld ?_
          simp only [Act.put, List.getElem_toArray, List.getElem_cons_zero, List.getElem_cons_succ, List.setIfInBounds_toArray, List.set_cons_zero, List.set_cons_succ]
          refine wpAnyH_ready (rs := [2]) (by kernel_rfl) (by simp) ?_
          refine AllReadyH.cons (o := _) rfl (fun K hK => ?_) AllReadyH.nil
          go_simp
          refine HV.out.mono ?_
          rintro e wv ⟨rfl, b⟩
          have BV : Hid (Below wF.heap.size wF wv) := (belowDrew1 wF).trans (b.mono (Nat.le_refl _))
          have hS := HD.out wv BV.out
          clear b
          generalize hkk : wk (tG es') 0 = kk
          go_wp2_with fail
          refine hK.out _ _ hS (fun hHeld => ?_)
          clear hK K
          refine wpAnyH_take (i := 3) (v := .bool (kk == 0)) rfl (by kernel_rfl) (by kernel_rfl) (by kernel_rfl) (fun _ _ _ h => h) (Or.inl ⟨by rfl, fun w hw => by go_simp⟩) hHeld ?_
          simp only [Act.put, List.getElem_toArray, List.getElem_cons_zero, List.getElem_cons_succ, List.setIfInBounds_toArray, List.set_cons_zero, List.set_cons_succ]
          have hR := (HK.out wv (HWE.out.2.2.2.1.trans (BV.out.mono HWE.out.2.2.2.1.size))).2.1
          have r0 : wv.cell? ⟨H + 1, 0, none⟩ = some (.int .i64 0) := by simp [World.cell?, hR]
          have r1 : wv.cell? ⟨H + 1, 1, none⟩ = some (.int .i64 0) := by simp [World.cell?, hR]
          have r2 : wv.cell? ⟨H + 1, 2, none⟩ = some (.string ⟨#[]⟩) := by simp [World.cell?, hR]
          have r3 : wv.cell? ⟨H + 1, 3, none⟩ = some (.slice none 0 0) := by simp [World.cell?, hR]
          have r4 : wv.cell? ⟨H + 1, 4, none⟩ = some (.slice none 0 0) := by simp [World.cell?, hR]
          have f0 : ∀ j, wv.frozen? ⟨H + 1, j, none⟩ = false := fun j => by simp [World.frozen?, hR]
          have z0 := f0 0
          have z1 := f0 1
          have z2 := f0 2
          have z3 := f0 3
          have z4 := f0 4
          have HRR := Lib.hid hR
          clear hR f0
          have hS2 : (((((wv.setCell ⟨H + 1, 0, none⟩ (.int .i64 4)).setCell ⟨H + 1, 1, none⟩ (.int .i64 0)).setCell ⟨H + 1, 2, none⟩ (.string ⟨#[]⟩)).setCell ⟨H + 1, 3, none⟩ (.slice none 0 0)).setCell ⟨H + 1, 4, none⟩ (.slice va es'.length vc)).cell? ⟨da, 0, none⟩ = some (.int .i64 4) ∧ (((((wv.setCell ⟨H + 1, 0, none⟩ (.int .i64 4)).setCell ⟨H + 1, 1, none⟩ (.int .i64 0)).setCell ⟨H + 1, 2, none⟩ (.string ⟨#[]⟩)).setCell ⟨H + 1, 3, none⟩ (.slice none 0 0)).setCell ⟨H + 1, 4, none⟩ (.slice va es'.length vc)).cell? ⟨da, 1, none⟩ = some (.int .i64 0) ∧ (((((wv.setCell ⟨H + 1, 0, none⟩ (.int .i64 4)).setCell ⟨H + 1, 1, none⟩ (.int .i64 0)).setCell ⟨H + 1, 2, none⟩ (.string ⟨#[]⟩)).setCell ⟨H + 1, 3, none⟩ (.slice none 0 0)).setCell ⟨H + 1, 4, none⟩ (.slice va es'.length vc)).cell? ⟨da, 2, none⟩ = some (.string ⟨#[]⟩) ∧ (((((wv.setCell ⟨H + 1, 0, none⟩ (.int .i64 4)).setCell ⟨H + 1, 1, none⟩ (.int .i64 0)).setCell ⟨H + 1, 2, none⟩ (.string ⟨#[]⟩)).setCell ⟨H + 1, 3, none⟩ (.slice none 0 0)).setCell ⟨H + 1, 4, none⟩ (.slice va es'.length vc)).cell? ⟨da, 3, none⟩ = some (.slice none 0 0) ∧ (((((wv.setCell ⟨H + 1, 0, none⟩ (.int .i64 4)).setCell ⟨H + 1, 1, none⟩ (.int .i64 0)).setCell ⟨H + 1, 2, none⟩ (.string ⟨#[]⟩)).setCell ⟨H + 1, 3, none⟩ (.slice none 0 0)).setCell ⟨H + 1, 4, none⟩ (.slice va es'.length vc)).cell? ⟨da, 4, none⟩ = some (.slice va es'.length vc) := by
            have e8 := (besides5 wv (H + 1) (.int .i64 4) (.int .i64 0) (.string ⟨#[]⟩) (.slice none 0 0) (.slice va es'.length vc)).block da (Nat.lt_of_lt_of_le (Array.getElem?_eq_some_iff.1 HWE.out.2.2.2.2.1).1 BV.out.size) (by have h6 := HWE.out.2.2.2.2.2; have h5 := HWZ.out.2.2.1; omega)
            refine ⟨(World.cell?_of_block (w := wv) (a := ⟨da, 0, none⟩) e8).trans hS.1, (World.cell?_of_block (w := wv) (a := ⟨da, 1, none⟩) e8).trans hS.2.1, (World.cell?_of_block (w := wv) (a := ⟨da, 2, none⟩) e8).trans hS.2.2.1, (World.cell?_of_block (w := wv) (a := ⟨da, 3, none⟩) e8).trans hS.2.2.2.1, (World.cell?_of_block (w := wv) (a := ⟨da, 4, none⟩) e8).trans hS.2.2.2.2⟩
          refine wpAnyH_ready (rs := [4]) (by kernel_rfl) (by simp) ?_
          refine AllReadyH.cons (o := _) rfl (fun K hK => ?_) AllReadyH.nil
          go_simp
          refine hK.out _ _ hS2 (fun hHeld => ?_)
          clear hK K
          refine wpAnyH_ready (rs := [5]) (by kernel_rfl) (by simp) ?_
          refine AllReadyH.cons (o := _) rfl (fun K hK => ?_) AllReadyH.nil
          go_simp
          refine hK.out _ _ hS2 (fun hHeld => ?_)
          clear hK K
          refine wpAnyH_done (by kernel_rfl) ?_ _
          clear hHeld
          clear hS hS2 r0 r1 r2 r3 r4 z0 z1 z2 z3 z4
          go_wp2
          refine bodyPost_ret (v := .tuple #[.agg #[.int .i64 4, .int .i64 0, .string ⟨#[]⟩, .slice none 0 0, .slice va es'.length vc], .bool (kk == 0)]) (results_cell2 Try.results46 _ _ (H + 1) _ rfl (ow.set (ow.set (ow.set (ow.set (ow.set HRR.out 0 _) 1 _) 2 _) 3 _) 4 _) rfl) rfl ⟨.slice ya ns.length yc, .slice va es'.length vc, es', by rw [hkk], ?_, ?_, ?_⟩
          · rw [show ownP ns sz qu ag (.slice ya ns.length yc) = ownQ ns sz qu ag ab (.slice ya ns.length yc) by unfold ownP; rw [HAB.out]]
            exact HWE.out.1
          · exact ⟨⟨none, 0, rfl, .inl rfl⟩, rd_besides (besides5 _ _ _ _ _ _ _) (rd_keep BV.out (fun _ h => h) HWE.out.2.1)⟩
          · rw [HS.out]
            exact below5 (HB0.out.trans ((HWE.out.2.2.2.1.trans (BV.out.mono HWE.out.2.2.2.1.size)).mono (by have h5 := HWZ.out.2.2.1; omega))) (by omega) _ _ _ _ _
      · go_simp
        have bz : Below u2.heap.size u2 (u2.alloc (.cells #[.int .i64 0, .int .i64 0, .string ⟨#[]⟩, .slice none 0 0, .slice none 0 0] 56)) := (Below.refl _ _).alloc (Nat.le_refl _) _
        have AD : Hid ((u2.alloc (.cells #[.int .i64 0, .int .i64 0, .string ⟨#[]⟩, .slice none 0 0, .slice none 0 0] 56)).heap[u2.heap.size]? = some (.cells #[.int .i64 0, .int .i64 0, .string ⟨#[]⟩, .slice none 0 0, .slice none 0 0] 56 (0, 0)) ∧ w0.heap.size ≤ u2.heap.size) := ⟨heap_new _ _, BW.out.size⟩
        have BW2 : Hid (Below w0.heap.size w0 (u2.alloc (.cells #[.int .i64 0, .int .i64 0, .string ⟨#[]⟩, .slice none 0 0, .slice none 0 0] 56))) := BW.out.trans (bz.mono BW.out.size)
        clear BW
        have BW : Hid (Below w0.heap.size w0 (u2.alloc (.cells #[.int .i64 0, .int .i64 0, .string ⟨#[]⟩, .slice none 0 0, .slice none 0 0] 56))) := BW2.out
        clear BW2
        have hS : BoxC H (u2.alloc (.cells #[.int .i64 0, .int .i64 0, .string ⟨#[]⟩, .slice none 0 0, .slice none 0 0] 56)) na ma nc mc ns.length es.length sz qu ag := (HK.out (u2.alloc (.cells #[.int .i64 0, .int .i64 0, .string ⟨#[]⟩, .slice none 0 0, .slice none 0 0] 56)) BW.out).box
        have VN2 : Hid (RV (fun b => b ≠ u2.heap.size ∧ b ≠ H + 1) (u2.alloc (.cells #[.int .i64 0, .int .i64 0, .string ⟨#[]⟩, .slice none 0 0, .slice none 0 0] 56)) (tG (nE ns)) (.slice none 0 0) (.slice ya ns.length yc)) := RV.move (fun b hb hl => ⟨by omega, hb⟩) bz.size (fun b _ hl => bz.block b hl) _ _ _ VN.out
        clear VN
        have VN : Hid (RV (fun b => b ≠ u2.heap.size ∧ b ≠ H + 1) (u2.alloc (.cells #[.int .i64 0, .int .i64 0, .string ⟨#[]⟩, .slice none 0 0, .slice none 0 0] 56)) (tG (nE ns)) (.slice none 0 0) (.slice ya ns.length yc)) := VN2.out
        clear VN2
        refine hK.out _ _ hS (fun hHeld => ?_)
        clear hK K hS
        clear bz
        generalize u2.alloc (.cells #[.int .i64 0, .int .i64 0, .string ⟨#[]⟩, .slice none 0 0, .slice none 0 0] 56) = a17 at *
        generalize u2.heap.size = da at *
        refine wpAnyH_ready (rs := [17]) (by kernel_rfl) (by simp) ?_
        refine AllReadyH.cons (o := _) rfl (fun K hK => ?_) AllReadyH.nil
        go_simp
        refine (numberIf58x (qu != 0) kQ qu a17).mono ?_
        rintro e u18 ⟨rfl, b⟩
        have BW2 : Hid (Below w0.heap.size w0 u18) := BW.out.trans (b.mono BW.out.size)
        clear BW
        have BW : Hid (Below w0.heap.size w0 u18) := BW2.out
        clear BW2
        have VN2 : Hid (RV (fun b => b ≠ da ∧ b ≠ H + 1) u18 (tG (nE ns)) (.slice none 0 0) (.slice ya ns.length yc)) := RV.keep (fun _ h => h) b.size (fun q _ hl => b.block q hl) _ _ _ VN.out
        clear VN
        have VN : Hid (RV (fun b => b ≠ da ∧ b ≠ H + 1) u18 (tG (nE ns)) (.slice none 0 0) (.slice ya ns.length yc)) := VN2.out
        clear VN2
        have AD2 : Hid (u18.heap[da]? = some (.cells #[.int .i64 0, .int .i64 0, .string ⟨#[]⟩, .slice none 0 0, .slice none 0 0] 56 (0, 0)) ∧ w0.heap.size ≤ da) := ⟨(b.block da (Array.getElem?_eq_some_iff.1 AD.out.1).1).trans AD.out.1, AD.out.2⟩
        clear AD
        have AD : Hid (u18.heap[da]? = some (.cells #[.int .i64 0, .int .i64 0, .string ⟨#[]⟩, .slice none 0 0, .slice none 0 0] 56 (0, 0)) ∧ w0.heap.size ≤ da) := AD2.out
        clear AD2
        clear b
        have hS : BoxC H u18 na ma nc mc ns.length es.length sz qu ag := (HK.out u18 BW.out).box
        go_wp2_with fail
        refine hK.out _ _ hS (fun hHeld => ?_)
        clear hK K hS
        refine wpAnyH_ready (rs := [23]) (by kernel_rfl) (by simp) ?_
        refine AllReadyH.cons (o := _) rfl (fun K hK => ?_) AllReadyH.nil
        go_simp
        refine (textIf59x ab kV ag u18).mono ?_
        rintro e u19 ⟨rfl, b⟩
        have BW2 : Hid (Below w0.heap.size w0 u19) := BW.out.trans (b.mono BW.out.size)
        clear BW
        have BW : Hid (Below w0.heap.size w0 u19) := BW2.out
        clear BW2
        have VN2 : Hid (RV (fun b => b ≠ da ∧ b ≠ H + 1) u19 (tG (nE ns)) (.slice none 0 0) (.slice ya ns.length yc)) := RV.keep (fun _ h => h) b.size (fun q _ hl => b.block q hl) _ _ _ VN.out
        clear VN
        have VN : Hid (RV (fun b => b ≠ da ∧ b ≠ H + 1) u19 (tG (nE ns)) (.slice none 0 0) (.slice ya ns.length yc)) := VN2.out
        clear VN2
        have AD2 : Hid (u19.heap[da]? = some (.cells #[.int .i64 0, .int .i64 0, .string ⟨#[]⟩, .slice none 0 0, .slice none 0 0] 56 (0, 0)) ∧ w0.heap.size ≤ da) := ⟨(b.block da (Array.getElem?_eq_some_iff.1 AD.out.1).1).trans AD.out.1, AD.out.2⟩
        clear AD
        have AD : Hid (u19.heap[da]? = some (.cells #[.int .i64 0, .int .i64 0, .string ⟨#[]⟩, .slice none 0 0, .slice none 0 0] 56 (0, 0)) ∧ w0.heap.size ≤ da) := AD2.out
        clear AD2
        clear b
        have hS : BoxC H u19 na ma nc mc ns.length es.length sz qu ag := (HK.out u19 BW.out).box
        go_wp2_with fail
        refine hK.out _ _ hS (fun hHeld => ?_)
        clear hK K hS
        refine wpAnyH_ready (rs := [24]) (by kernel_rfl) (by simp) ?_
        refine AllReadyH.cons (o := _) rfl (fun K hK => ?_) AllReadyH.nil
        go_simp
        have b : Below u19.heap.size u19 (u19.alloc (.cells #[.string kM, .int .i64 4, .int .i64 0, .string ⟨#[]⟩, .slice none 0 0, .slice ya ns.length yc, .string kZ, .int .i64 (nI (sz != 0) sz).k, .int .i64 (nI (sz != 0) sz).n, .string (nI (sz != 0) sz).s, .slice none 0 0, .slice none 0 0, .string kQ, .int .i64 (nI (qu != 0) qu).k, .int .i64 (nI (qu != 0) qu).n, .string (nI (qu != 0) qu).s, .slice none 0 0, .slice none 0 0, .string kV, .int .i64 (sI ab ag).k, .int .i64 (sI ab ag).n, .string (sI ab ag).s, .slice none 0 0, .slice none 0 0] 59)) := (Below.refl _ _).alloc (Nat.le_refl _) _
        have DG1 : Hid ((u19.alloc (.cells #[.string kM, .int .i64 4, .int .i64 0, .string ⟨#[]⟩, .slice none 0 0, .slice ya ns.length yc, .string kZ, .int .i64 (nI (sz != 0) sz).k, .int .i64 (nI (sz != 0) sz).n, .string (nI (sz != 0) sz).s, .slice none 0 0, .slice none 0 0, .string kQ, .int .i64 (nI (qu != 0) qu).k, .int .i64 (nI (qu != 0) qu).n, .string (nI (qu != 0) qu).s, .slice none 0 0, .slice none 0 0, .string kV, .int .i64 (sI ab ag).k, .int .i64 (sI ab ag).n, .string (sI ab ag).s, .slice none 0 0, .slice none 0 0] 59)).heap[u19.heap.size]? = some (.cells (gCs (ownQ ns sz qu ag ab (.slice ya ns.length yc))).toArray 59 (0, 0))) := heap_new _ _
        have BW2 : Hid (Below w0.heap.size w0 (u19.alloc (.cells #[.string kM, .int .i64 4, .int .i64 0, .string ⟨#[]⟩, .slice none 0 0, .slice ya ns.length yc, .string kZ, .int .i64 (nI (sz != 0) sz).k, .int .i64 (nI (sz != 0) sz).n, .string (nI (sz != 0) sz).s, .slice none 0 0, .slice none 0 0, .string kQ, .int .i64 (nI (qu != 0) qu).k, .int .i64 (nI (qu != 0) qu).n, .string (nI (qu != 0) qu).s, .slice none 0 0, .slice none 0 0, .string kV, .int .i64 (sI ab ag).k, .int .i64 (sI ab ag).n, .string (sI ab ag).s, .slice none 0 0, .slice none 0 0] 59))) := BW.out.trans (b.mono BW.out.size)
        clear BW
        have BW : Hid (Below w0.heap.size w0 (u19.alloc (.cells #[.string kM, .int .i64 4, .int .i64 0, .string ⟨#[]⟩, .slice none 0 0, .slice ya ns.length yc, .string kZ, .int .i64 (nI (sz != 0) sz).k, .int .i64 (nI (sz != 0) sz).n, .string (nI (sz != 0) sz).s, .slice none 0 0, .slice none 0 0, .string kQ, .int .i64 (nI (qu != 0) qu).k, .int .i64 (nI (qu != 0) qu).n, .string (nI (qu != 0) qu).s, .slice none 0 0, .slice none 0 0, .string kV, .int .i64 (sI ab ag).k, .int .i64 (sI ab ag).n, .string (sI ab ag).s, .slice none 0 0, .slice none 0 0] 59))) := BW2.out
        clear BW2
        have VN2 : Hid (RV (fun b => b ≠ da ∧ b ≠ H + 1) (u19.alloc (.cells #[.string kM, .int .i64 4, .int .i64 0, .string ⟨#[]⟩, .slice none 0 0, .slice ya ns.length yc, .string kZ, .int .i64 (nI (sz != 0) sz).k, .int .i64 (nI (sz != 0) sz).n, .string (nI (sz != 0) sz).s, .slice none 0 0, .slice none 0 0, .string kQ, .int .i64 (nI (qu != 0) qu).k, .int .i64 (nI (qu != 0) qu).n, .string (nI (qu != 0) qu).s, .slice none 0 0, .slice none 0 0, .string kV, .int .i64 (sI ab ag).k, .int .i64 (sI ab ag).n, .string (sI ab ag).s, .slice none 0 0, .slice none 0 0] 59)) (tG (nE ns)) (.slice none 0 0) (.slice ya ns.length yc)) := RV.keep (fun _ h => h) b.size (fun q _ hl => b.block q hl) _ _ _ VN.out
        clear VN
        have VN : Hid (RV (fun b => b ≠ da ∧ b ≠ H + 1) (u19.alloc (.cells #[.string kM, .int .i64 4, .int .i64 0, .string ⟨#[]⟩, .slice none 0 0, .slice ya ns.length yc, .string kZ, .int .i64 (nI (sz != 0) sz).k, .int .i64 (nI (sz != 0) sz).n, .string (nI (sz != 0) sz).s, .slice none 0 0, .slice none 0 0, .string kQ, .int .i64 (nI (qu != 0) qu).k, .int .i64 (nI (qu != 0) qu).n, .string (nI (qu != 0) qu).s, .slice none 0 0, .slice none 0 0, .string kV, .int .i64 (sI ab ag).k, .int .i64 (sI ab ag).n, .string (sI ab ag).s, .slice none 0 0, .slice none 0 0] 59)) (tG (nE ns)) (.slice none 0 0) (.slice ya ns.length yc)) := VN2.out
        clear VN2
        have AD2 : Hid ((u19.alloc (.cells #[.string kM, .int .i64 4, .int .i64 0, .string ⟨#[]⟩, .slice none 0 0, .slice ya ns.length yc, .string kZ, .int .i64 (nI (sz != 0) sz).k, .int .i64 (nI (sz != 0) sz).n, .string (nI (sz != 0) sz).s, .slice none 0 0, .slice none 0 0, .string kQ, .int .i64 (nI (qu != 0) qu).k, .int .i64 (nI (qu != 0) qu).n, .string (nI (qu != 0) qu).s, .slice none 0 0, .slice none 0 0, .string kV, .int .i64 (sI ab ag).k, .int .i64 (sI ab ag).n, .string (sI ab ag).s, .slice none 0 0, .slice none 0 0] 59)).heap[da]? = some (.cells #[.int .i64 0, .int .i64 0, .string ⟨#[]⟩, .slice none 0 0, .slice none 0 0] 56 (0, 0)) ∧ w0.heap.size ≤ da) := ⟨(b.block da (Array.getElem?_eq_some_iff.1 AD.out.1).1).trans AD.out.1, AD.out.2⟩
        clear AD
        have AD : Hid ((u19.alloc (.cells #[.string kM, .int .i64 4, .int .i64 0, .string ⟨#[]⟩, .slice none 0 0, .slice ya ns.length yc, .string kZ, .int .i64 (nI (sz != 0) sz).k, .int .i64 (nI (sz != 0) sz).n, .string (nI (sz != 0) sz).s, .slice none 0 0, .slice none 0 0, .string kQ, .int .i64 (nI (qu != 0) qu).k, .int .i64 (nI (qu != 0) qu).n, .string (nI (qu != 0) qu).s, .slice none 0 0, .slice none 0 0, .string kV, .int .i64 (sI ab ag).k, .int .i64 (sI ab ag).n, .string (sI ab ag).s, .slice none 0 0, .slice none 0 0] 59)).heap[da]? = some (.cells #[.int .i64 0, .int .i64 0, .string ⟨#[]⟩, .slice none 0 0, .slice none 0 0] 56 (0, 0)) ∧ w0.heap.size ≤ da) := AD2.out
        clear AD2
        clear b
        have hS : BoxC H (u19.alloc (.cells #[.string kM, .int .i64 4, .int .i64 0, .string ⟨#[]⟩, .slice none 0 0, .slice ya ns.length yc, .string kZ, .int .i64 (nI (sz != 0) sz).k, .int .i64 (nI (sz != 0) sz).n, .string (nI (sz != 0) sz).s, .slice none 0 0, .slice none 0 0, .string kQ, .int .i64 (nI (qu != 0) qu).k, .int .i64 (nI (qu != 0) qu).n, .string (nI (qu != 0) qu).s, .slice none 0 0, .slice none 0 0, .string kV, .int .i64 (sI ab ag).k, .int .i64 (sI ab ag).n, .string (sI ab ag).s, .slice none 0 0, .slice none 0 0] 59)) na ma nc mc ns.length es.length sz qu ag := (HK.out (u19.alloc (.cells #[.string kM, .int .i64 4, .int .i64 0, .string ⟨#[]⟩, .slice none 0 0, .slice ya ns.length yc, .string kZ, .int .i64 (nI (sz != 0) sz).k, .int .i64 (nI (sz != 0) sz).n, .string (nI (sz != 0) sz).s, .slice none 0 0, .slice none 0 0, .string kQ, .int .i64 (nI (qu != 0) qu).k, .int .i64 (nI (qu != 0) qu).n, .string (nI (qu != 0) qu).s, .slice none 0 0, .slice none 0 0, .string kV, .int .i64 (sI ab ag).k, .int .i64 (sI ab ag).n, .string (sI ab ag).s, .slice none 0 0, .slice none 0 0] 59)) BW.out).box
        refine hK.out _ _ hS (fun hHeld => ?_)
        clear hK K hS
        generalize (u19.alloc (.cells #[.string kM, .int .i64 4, .int .i64 0, .string ⟨#[]⟩, .slice none 0 0, .slice ya ns.length yc, .string kZ, .int .i64 (nI (sz != 0) sz).k, .int .i64 (nI (sz != 0) sz).n, .string (nI (sz != 0) sz).s, .slice none 0 0, .slice none 0 0, .string kQ, .int .i64 (nI (qu != 0) qu).k, .int .i64 (nI (qu != 0) qu).n, .string (nI (qu != 0) qu).s, .slice none 0 0, .slice none 0 0, .string kV, .int .i64 (sI ab ag).k, .int .i64 (sI ab ag).n, .string (sI ab ag).s, .slice none 0 0, .slice none 0 0] 59)) = u20 at *
        generalize u19.heap.size = g5 at *
        refine wpAnyH_ready (rs := [25]) (by kernel_rfl) (by simp) ?_
        refine AllReadyH.cons (o := _) rfl (fun K hK => ?_) AllReadyH.nil
        go_simp
        refine (dictionary48 es (ownQ ns sz qu ag ab (.slice ya ns.length yc)) _ _ 4 u20 ((HK.out u20 BW.out).2.2.2.2.mono (by have := (HK.out u20 BW.out).2.2.1; omega)) (.inr ⟨g5, rfl, DG1.out⟩) (fun e he => RV.keep (fun _ _ => trivial) (Nat.le_refl _) (fun _ _ _ => rfl) _ _ _ (own_rv VN.out e he)) (by show es.length + 4 ≤ _; omega)).mono ?_
        rintro e u21 ⟨v', es', rfl, hld, hgr, b⟩
        obtain ⟨va, vc, rfl⟩ := hgr.form
        clear DG1
        have DG1 : Hid (LD es (ownQ ns sz qu ag ab (.slice ya ns.length yc)) es' ∧ GR (u20.heap.size + 1) u20.heap.size u21 (.slice va es'.length vc) es' ∧ (∀ g l c, Value.slice va es'.length vc = .slice (some ⟨g, 0, none⟩) l c → g ≠ da) ∧ H + 2 ≤ u20.heap.size + 1) := ⟨hld, hgr, fun g l c hg => by (have h8 := GR_ge hgr hg; have h7 := (Array.getElem?_eq_some_iff.1 AD.out.1).1; omega), by have h6 := (HK.out u20 BW.out).2.2.1; omega⟩
        have BW2 : Hid (Below w0.heap.size w0 u21) := BW.out.trans (b.mono BW.out.size)
        clear BW
        have BW : Hid (Below w0.heap.size w0 u21) := BW2.out
        clear BW2
        have VN2 : Hid (RV (fun b => b ≠ da ∧ b ≠ H + 1) u21 (tG (nE ns)) (.slice none 0 0) (.slice ya ns.length yc)) := RV.keep (fun _ h => h) b.size (fun q _ hl => b.block q hl) _ _ _ VN.out
        clear VN
        have VN : Hid (RV (fun b => b ≠ da ∧ b ≠ H + 1) u21 (tG (nE ns)) (.slice none 0 0) (.slice ya ns.length yc)) := VN2.out
        clear VN2
        have AD2 : Hid (u21.heap[da]? = some (.cells #[.int .i64 0, .int .i64 0, .string ⟨#[]⟩, .slice none 0 0, .slice none 0 0] 56 (0, 0)) ∧ w0.heap.size ≤ da) := ⟨(b.block da (Array.getElem?_eq_some_iff.1 AD.out.1).1).trans AD.out.1, AD.out.2⟩
        clear AD
        have AD : Hid (u21.heap[da]? = some (.cells #[.int .i64 0, .int .i64 0, .string ⟨#[]⟩, .slice none 0 0, .slice none 0 0] 56 (0, 0)) ∧ w0.heap.size ≤ da) := AD2.out
        clear AD2
        clear b hld hgr
        have hS : BoxC H u21 na ma nc mc ns.length es.length sz qu ag := (HK.out u21 BW.out).box
        go_wp2_with fail
        refine hK.out _ _ hS (fun hHeld => ?_)
        clear hK K hS
        generalize u20.heap.size + 1 = B5 at *
        generalize u20.heap.size = A5 at *
        have hR := AD.out.1
        have r0 : u21.cell? ⟨da, 0, none⟩ = some (.int .i64 0) := by simp [World.cell?, hR]
        have r1 : u21.cell? ⟨da, 1, none⟩ = some (.int .i64 0) := by simp [World.cell?, hR]
        have r2 : u21.cell? ⟨da, 2, none⟩ = some (.string ⟨#[]⟩) := by simp [World.cell?, hR]
        have r3 : u21.cell? ⟨da, 3, none⟩ = some (.slice none 0 0) := by simp [World.cell?, hR]
        have r4 : u21.cell? ⟨da, 4, none⟩ = some (.slice none 0 0) := by simp [World.cell?, hR]
        have f0 : ∀ j, u21.frozen? ⟨da, j, none⟩ = false := fun j => by simp [World.frozen?, hR]
        have z0 := f0 0
        have z1 := f0 1
        have z2 := f0 2
        have z3 := f0 3
        have z4 := f0 4
        clear hR f0
        have HWE : Hid (WF46 w0 (((((u21.setCell ⟨da, 0, none⟩ (.int .i64 4)).setCell ⟨da, 1, none⟩ (.int .i64 0)).setCell ⟨da, 2, none⟩ (.string ⟨#[]⟩)).setCell ⟨da, 3, none⟩ (.slice none 0 0)).setCell ⟨da, 4, none⟩ (.slice va es'.length vc)) H da na ma nc mc ns sz qu ag es (ownQ ns sz qu ag ab (.slice ya ns.length yc)) es' va vc) := WF46.of HWZ.out BW.out AD.out DG1.out VN.out
        have hS : BoxC H (((((u21.setCell ⟨da, 0, none⟩ (.int .i64 4)).setCell ⟨da, 1, none⟩ (.int .i64 0)).setCell ⟨da, 2, none⟩ (.string ⟨#[]⟩)).setCell ⟨da, 3, none⟩ (.slice none 0 0)).setCell ⟨da, 4, none⟩ (.slice va es'.length vc)) na ma nc mc ns.length es.length sz qu ag := HWE.out.2.2.1
        refine wpAnyH_ready (rs := [27]) (by kernel_rfl) (by simp) ?_
        refine AllReadyH.cons (o := _) rfl (fun K hK => ?_) AllReadyH.nil
        go_simp
        refine hK.out _ _ hS (fun hHeld => ?_)
        clear hK K hS
        refine wpAnyH_done (by kernel_rfl) ?_ _
        clear hHeld
        clear r0 r1 r2 r3 r4 z0 z1 z2 z3 z4 VN AD DG1 BW
        generalize (((((u21.setCell ⟨da, 0, none⟩ (.int .i64 4)).setCell ⟨da, 1, none⟩ (.int .i64 0)).setCell ⟨da, 2, none⟩ (.string ⟨#[]⟩)).setCell ⟨da, 3, none⟩ (.slice none 0 0)).setCell ⟨da, 4, none⟩ (.slice va es'.length vc)) = wF at *
        have HD : Hid (∀ x, Below wF.heap.size wF x → x.cell? ⟨da, 0, none⟩ = some (.int .i64 4) ∧ x.cell? ⟨da, 1, none⟩ = some (.int .i64 0) ∧ x.cell? ⟨da, 2, none⟩ = some (.string ⟨#[]⟩) ∧ x.cell? ⟨da, 3, none⟩ = some (.slice none 0 0) ∧ x.cell? ⟨da, 4, none⟩ = some (.slice va es'.length vc)) := fun x hx => by
          have e9 : x.heap[da]? = _ := (hx.block da (Array.getElem?_eq_some_iff.1 HWE.out.2.2.2.2.1).1).trans HWE.out.2.2.2.2.1
          refine ⟨?_, ?_, ?_, ?_, ?_⟩ <;> simp [World.cell?, e9]
        have HOK : Hid ((tG es').ok) := tG_ok (by have h9 := HWE.out.1.len; simp only [ownQ, List.length_cons, List.length_nil] at h9; omega) (fun e he => (HWE.out.1.mem e he).elim (hke e) (own_ok (by omega) hkn hka e))
        have HV := Lib.hid (valid32G es' va vc wF.drew HOK.out (rd_keep (belowDrew1 wF) (fun _ _ => trivial) HWE.out.2.1))
        go_upto_region 4 with fail
        refine wp_region_held_drew (S := fun x => x.cell? ⟨da, 0, none⟩ = some (.int .i64 4) ∧ x.cell? ⟨da, 1, none⟩ = some (.int .i64 0) ∧ x.cell? ⟨da, 2, none⟩ = some (.string ⟨#[]⟩) ∧ x.cell? ⟨da, 3, none⟩ = some (.slice none 0 0) ∧ x.cell? ⟨da, 4, none⟩ = some (.slice va es'.length vc)) (by kernel_rfl) (HD.out _ (belowDrew1 wF)) (fun hHeld => ?_)
        refine wpAnyH_take (i := 0) (v := .agg #[.int .i64 4, .int .i64 0, .string ⟨#[]⟩, .slice none 0 0, .slice va es'.length vc]) rfl (by kernel_rfl) (by kernel_rfl) (by kernel_rfl) (fun _ _ _ h => h) (Or.inl ⟨by rfl, fun w hw => by obtain ⟨s0, s1, s2, s3, s4⟩ := hw; go_simp⟩) hHeld ?_
        simp only [Act.put, List.getElem_toArray, List.getElem_cons_zero, List.setIfInBounds_toArray, List.set_cons_zero, List.set_cons_succ]
        refine wpAnyH_take (i := 1) (v := .agg #[.int .i64 4, .int .i64 0, .string ⟨#[]⟩, .slice none 0 0, .slice va es'.length vc]) rfl (by kernel_rfl) (by kernel_rfl) (by kernel_rfl) (fun _ _ _ h => h) (Or.inl ⟨by rfl, fun w hw => by obtain ⟨s0, s1, s2, s3, s4⟩ := hw; go_simp⟩) hHeld ?_
        simp only [Act.put, List.getElem_toArray, List.getElem_cons_zero, List.getElem_cons_succ, List.setIfInBounds_toArray, List.set_cons_zero, List.set_cons_succ]
        refine wpAnyH_ready (rs := [2]) (by kernel_rfl) (by simp) ?_
        refine AllReadyH.cons (o := _) rfl (fun K hK => ?_) AllReadyH.nil
        go_simp
        refine HV.out.mono ?_
        rintro e wv ⟨rfl, b⟩
        have BV : Hid (Below wF.heap.size wF wv) := (belowDrew1 wF).trans (b.mono (Nat.le_refl _))
        have hS := HD.out wv BV.out
        clear b
        generalize hkk : wk (tG es') 0 = kk
        go_wp2_with fail
        refine hK.out _ _ hS (fun hHeld => ?_)
        clear hK K
        refine wpAnyH_take (i := 3) (v := .bool (kk == 0)) rfl (by kernel_rfl) (by kernel_rfl) (by kernel_rfl) (fun _ _ _ h => h) (Or.inl ⟨by rfl, fun w hw => by go_simp⟩) hHeld ?_
        simp only [Act.put, List.getElem_toArray, List.getElem_cons_zero, List.getElem_cons_succ, List.setIfInBounds_toArray, List.set_cons_zero, List.set_cons_succ]
        have hR := (HK.out wv (HWE.out.2.2.2.1.trans (BV.out.mono HWE.out.2.2.2.1.size))).2.1
        have r0 : wv.cell? ⟨H + 1, 0, none⟩ = some (.int .i64 0) := by simp [World.cell?, hR]
        have r1 : wv.cell? ⟨H + 1, 1, none⟩ = some (.int .i64 0) := by simp [World.cell?, hR]
        have r2 : wv.cell? ⟨H + 1, 2, none⟩ = some (.string ⟨#[]⟩) := by simp [World.cell?, hR]
        have r3 : wv.cell? ⟨H + 1, 3, none⟩ = some (.slice none 0 0) := by simp [World.cell?, hR]
        have r4 : wv.cell? ⟨H + 1, 4, none⟩ = some (.slice none 0 0) := by simp [World.cell?, hR]
        have f0 : ∀ j, wv.frozen? ⟨H + 1, j, none⟩ = false := fun j => by simp [World.frozen?, hR]
        have z0 := f0 0
        have z1 := f0 1
        have z2 := f0 2
        have z3 := f0 3
        have z4 := f0 4
        have HRR := Lib.hid hR
        clear hR f0
        have hS2 : (((((wv.setCell ⟨H + 1, 0, none⟩ (.int .i64 4)).setCell ⟨H + 1, 1, none⟩ (.int .i64 0)).setCell ⟨H + 1, 2, none⟩ (.string ⟨#[]⟩)).setCell ⟨H + 1, 3, none⟩ (.slice none 0 0)).setCell ⟨H + 1, 4, none⟩ (.slice va es'.length vc)).cell? ⟨da, 0, none⟩ = some (.int .i64 4) ∧ (((((wv.setCell ⟨H + 1, 0, none⟩ (.int .i64 4)).setCell ⟨H + 1, 1, none⟩ (.int .i64 0)).setCell ⟨H + 1, 2, none⟩ (.string ⟨#[]⟩)).setCell ⟨H + 1, 3, none⟩ (.slice none 0 0)).setCell ⟨H + 1, 4, none⟩ (.slice va es'.length vc)).cell? ⟨da, 1, none⟩ = some (.int .i64 0) ∧ (((((wv.setCell ⟨H + 1, 0, none⟩ (.int .i64 4)).setCell ⟨H + 1, 1, none⟩ (.int .i64 0)).setCell ⟨H + 1, 2, none⟩ (.string ⟨#[]⟩)).setCell ⟨H + 1, 3, none⟩ (.slice none 0 0)).setCell ⟨H + 1, 4, none⟩ (.slice va es'.length vc)).cell? ⟨da, 2, none⟩ = some (.string ⟨#[]⟩) ∧ (((((wv.setCell ⟨H + 1, 0, none⟩ (.int .i64 4)).setCell ⟨H + 1, 1, none⟩ (.int .i64 0)).setCell ⟨H + 1, 2, none⟩ (.string ⟨#[]⟩)).setCell ⟨H + 1, 3, none⟩ (.slice none 0 0)).setCell ⟨H + 1, 4, none⟩ (.slice va es'.length vc)).cell? ⟨da, 3, none⟩ = some (.slice none 0 0) ∧ (((((wv.setCell ⟨H + 1, 0, none⟩ (.int .i64 4)).setCell ⟨H + 1, 1, none⟩ (.int .i64 0)).setCell ⟨H + 1, 2, none⟩ (.string ⟨#[]⟩)).setCell ⟨H + 1, 3, none⟩ (.slice none 0 0)).setCell ⟨H + 1, 4, none⟩ (.slice va es'.length vc)).cell? ⟨da, 4, none⟩ = some (.slice va es'.length vc) := by
          have e8 := (besides5 wv (H + 1) (.int .i64 4) (.int .i64 0) (.string ⟨#[]⟩) (.slice none 0 0) (.slice va es'.length vc)).block da (Nat.lt_of_lt_of_le (Array.getElem?_eq_some_iff.1 HWE.out.2.2.2.2.1).1 BV.out.size) (by have h6 := HWE.out.2.2.2.2.2; have h5 := HWZ.out.2.2.1; omega)
          refine ⟨(World.cell?_of_block (w := wv) (a := ⟨da, 0, none⟩) e8).trans hS.1, (World.cell?_of_block (w := wv) (a := ⟨da, 1, none⟩) e8).trans hS.2.1, (World.cell?_of_block (w := wv) (a := ⟨da, 2, none⟩) e8).trans hS.2.2.1, (World.cell?_of_block (w := wv) (a := ⟨da, 3, none⟩) e8).trans hS.2.2.2.1, (World.cell?_of_block (w := wv) (a := ⟨da, 4, none⟩) e8).trans hS.2.2.2.2⟩
        refine wpAnyH_ready (rs := [4]) (by kernel_rfl) (by simp) ?_
        refine AllReadyH.cons (o := _) rfl (fun K hK => ?_) AllReadyH.nil
        go_simp
        refine hK.out _ _ hS2 (fun hHeld => ?_)
        clear hK K
        refine wpAnyH_ready (rs := [5]) (by kernel_rfl) (by simp) ?_
        refine AllReadyH.cons (o := _) rfl (fun K hK => ?_) AllReadyH.nil
        go_simp
        refine hK.out _ _ hS2 (fun hHeld => ?_)
        clear hK K
        refine wpAnyH_done (by kernel_rfl) ?_ _
        clear hHeld
        clear hS hS2 r0 r1 r2 r3 r4 z0 z1 z2 z3 z4
        go_wp2
        refine bodyPost_ret (v := .tuple #[.agg #[.int .i64 4, .int .i64 0, .string ⟨#[]⟩, .slice none 0 0, .slice va es'.length vc], .bool (kk == 0)]) (results_cell2 Try.results46 _ _ (H + 1) _ rfl (ow.set (ow.set (ow.set (ow.set (ow.set HRR.out 0 _) 1 _) 2 _) 3 _) 4 _) rfl) rfl ⟨.slice ya ns.length yc, .slice va es'.length vc, es', by rw [hkk], ?_, ?_, ?_⟩
        · rw [show ownP ns sz qu ag (.slice ya ns.length yc) = ownQ ns sz qu ag ab (.slice ya ns.length yc) by unfold ownP; rw [HAB.out]]
          exact HWE.out.1
        · exact ⟨⟨none, 0, rfl, .inl rfl⟩, rd_besides (besides5 _ _ _ _ _ _ _) (rd_keep BV.out (fun _ h => h) HWE.out.2.1)⟩
        · rw [HS.out]
          exact below5 (HB0.out.trans ((HWE.out.2.2.2.1.trans (BV.out.mono HWE.out.2.2.2.1.size)).mono (by have h5 := HWZ.out.2.2.1; omega))) (by omega) _ _ _ _ _
    · go_simp
      have bz : Below u1.heap.size u1 (u1.alloc (.cells #[.int .i64 0, .int .i64 0, .string ⟨#[]⟩, .slice none 0 0, .slice none 0 0] 56)) := (Below.refl _ _).alloc (Nat.le_refl _) _
      have AD : Hid ((u1.alloc (.cells #[.int .i64 0, .int .i64 0, .string ⟨#[]⟩, .slice none 0 0, .slice none 0 0] 56)).heap[u1.heap.size]? = some (.cells #[.int .i64 0, .int .i64 0, .string ⟨#[]⟩, .slice none 0 0, .slice none 0 0] 56 (0, 0)) ∧ w0.heap.size ≤ u1.heap.size) := ⟨heap_new _ _, BW.out.size⟩
      have BW2 : Hid (Below w0.heap.size w0 (u1.alloc (.cells #[.int .i64 0, .int .i64 0, .string ⟨#[]⟩, .slice none 0 0, .slice none 0 0] 56))) := BW.out.trans (bz.mono BW.out.size)
      clear BW
      have BW : Hid (Below w0.heap.size w0 (u1.alloc (.cells #[.int .i64 0, .int .i64 0, .string ⟨#[]⟩, .slice none 0 0, .slice none 0 0] 56))) := BW2.out
      clear BW2
      have hS : BoxC H (u1.alloc (.cells #[.int .i64 0, .int .i64 0, .string ⟨#[]⟩, .slice none 0 0, .slice none 0 0] 56)) na ma nc mc ns.length es.length sz qu ag := (HK.out (u1.alloc (.cells #[.int .i64 0, .int .i64 0, .string ⟨#[]⟩, .slice none 0 0, .slice none 0 0] 56)) BW.out).box
      have VN2 : Hid (RV (fun b => b ≠ u1.heap.size ∧ b ≠ H + 1) (u1.alloc (.cells #[.int .i64 0, .int .i64 0, .string ⟨#[]⟩, .slice none 0 0, .slice none 0 0] 56)) (tG (nE ns)) (.slice none 0 0) (.slice ya ns.length yc)) := RV.move (fun b hb hl => ⟨by omega, hb⟩) bz.size (fun b _ hl => bz.block b hl) _ _ _ VN.out
      clear VN
      have VN : Hid (RV (fun b => b ≠ u1.heap.size ∧ b ≠ H + 1) (u1.alloc (.cells #[.int .i64 0, .int .i64 0, .string ⟨#[]⟩, .slice none 0 0, .slice none 0 0] 56)) (tG (nE ns)) (.slice none 0 0) (.slice ya ns.length yc)) := VN2.out
      clear VN2
      refine hK.out _ _ hS (fun hHeld => ?_)
      clear hK K hS
      clear bz
      generalize u1.alloc (.cells #[.int .i64 0, .int .i64 0, .string ⟨#[]⟩, .slice none 0 0, .slice none 0 0] 56) = a22 at *
      generalize u1.heap.size = da at *
      refine wpAnyH_ready (rs := [11]) (by kernel_rfl) (by simp) ?_
      refine AllReadyH.cons (o := _) rfl (fun K hK => ?_) AllReadyH.nil
      go_simp
      refine (numberIf58x (sz != 0) kZ sz a22).mono ?_
      rintro e u23 ⟨rfl, b⟩
      have BW2 : Hid (Below w0.heap.size w0 u23) := BW.out.trans (b.mono BW.out.size)
      clear BW
      have BW : Hid (Below w0.heap.size w0 u23) := BW2.out
      clear BW2
      have VN2 : Hid (RV (fun b => b ≠ da ∧ b ≠ H + 1) u23 (tG (nE ns)) (.slice none 0 0) (.slice ya ns.length yc)) := RV.keep (fun _ h => h) b.size (fun q _ hl => b.block q hl) _ _ _ VN.out
      clear VN
      have VN : Hid (RV (fun b => b ≠ da ∧ b ≠ H + 1) u23 (tG (nE ns)) (.slice none 0 0) (.slice ya ns.length yc)) := VN2.out
      clear VN2
      have AD2 : Hid (u23.heap[da]? = some (.cells #[.int .i64 0, .int .i64 0, .string ⟨#[]⟩, .slice none 0 0, .slice none 0 0] 56 (0, 0)) ∧ w0.heap.size ≤ da) := ⟨(b.block da (Array.getElem?_eq_some_iff.1 AD.out.1).1).trans AD.out.1, AD.out.2⟩
      clear AD
      have AD : Hid (u23.heap[da]? = some (.cells #[.int .i64 0, .int .i64 0, .string ⟨#[]⟩, .slice none 0 0, .slice none 0 0] 56 (0, 0)) ∧ w0.heap.size ≤ da) := AD2.out
      clear AD2
      clear b
      have hS : BoxC H u23 na ma nc mc ns.length es.length sz qu ag := (HK.out u23 BW.out).box
      go_wp2_with fail
      refine hK.out _ _ hS (fun hHeld => ?_)
      clear hK K hS
      refine wpAnyH_ready (rs := [17]) (by kernel_rfl) (by simp) ?_
      refine AllReadyH.cons (o := _) rfl (fun K hK => ?_) AllReadyH.nil
      go_simp
      refine (numberIf58x (qu != 0) kQ qu u23).mono ?_
      rintro e u24 ⟨rfl, b⟩
      have BW2 : Hid (Below w0.heap.size w0 u24) := BW.out.trans (b.mono BW.out.size)
      clear BW
      have BW : Hid (Below w0.heap.size w0 u24) := BW2.out
      clear BW2
      have VN2 : Hid (RV (fun b => b ≠ da ∧ b ≠ H + 1) u24 (tG (nE ns)) (.slice none 0 0) (.slice ya ns.length yc)) := RV.keep (fun _ h => h) b.size (fun q _ hl => b.block q hl) _ _ _ VN.out
      clear VN
      have VN : Hid (RV (fun b => b ≠ da ∧ b ≠ H + 1) u24 (tG (nE ns)) (.slice none 0 0) (.slice ya ns.length yc)) := VN2.out
      clear VN2
      have AD2 : Hid (u24.heap[da]? = some (.cells #[.int .i64 0, .int .i64 0, .string ⟨#[]⟩, .slice none 0 0, .slice none 0 0] 56 (0, 0)) ∧ w0.heap.size ≤ da) := ⟨(b.block da (Array.getElem?_eq_some_iff.1 AD.out.1).1).trans AD.out.1, AD.out.2⟩
      clear AD
      have AD : Hid (u24.heap[da]? = some (.cells #[.int .i64 0, .int .i64 0, .string ⟨#[]⟩, .slice none 0 0, .slice none 0 0] 56 (0, 0)) ∧ w0.heap.size ≤ da) := AD2.out
      clear AD2
      clear b
      have hS : BoxC H u24 na ma nc mc ns.length es.length sz qu ag := (HK.out u24 BW.out).box
      go_wp2_with fail
      refine hK.out _ _ hS (fun hHeld => ?_)
      clear hK K hS
      refine wpAnyH_ready (rs := [23]) (by kernel_rfl) (by simp) ?_
      refine AllReadyH.cons (o := _) rfl (fun K hK => ?_) AllReadyH.nil
      go_simp
      refine (textIf59x ab kV ag u24).mono ?_
      rintro e u25 ⟨rfl, b⟩
      have BW2 : Hid (Below w0.heap.size w0 u25) := BW.out.trans (b.mono BW.out.size)
      clear BW
      have BW : Hid (Below w0.heap.size w0 u25) := BW2.out
      clear BW2
      have VN2 : Hid (RV (fun b => b ≠ da ∧ b ≠ H + 1) u25 (tG (nE ns)) (.slice none 0 0) (.slice ya ns.length yc)) := RV.keep (fun _ h => h) b.size (fun q _ hl => b.block q hl) _ _ _ VN.out
      clear VN
      have VN : Hid (RV (fun b => b ≠ da ∧ b ≠ H + 1) u25 (tG (nE ns)) (.slice none 0 0) (.slice ya ns.length yc)) := VN2.out
      clear VN2
      have AD2 : Hid (u25.heap[da]? = some (.cells #[.int .i64 0, .int .i64 0, .string ⟨#[]⟩, .slice none 0 0, .slice none 0 0] 56 (0, 0)) ∧ w0.heap.size ≤ da) := ⟨(b.block da (Array.getElem?_eq_some_iff.1 AD.out.1).1).trans AD.out.1, AD.out.2⟩
      clear AD
      have AD : Hid (u25.heap[da]? = some (.cells #[.int .i64 0, .int .i64 0, .string ⟨#[]⟩, .slice none 0 0, .slice none 0 0] 56 (0, 0)) ∧ w0.heap.size ≤ da) := AD2.out
      clear AD2
      clear b
      have hS : BoxC H u25 na ma nc mc ns.length es.length sz qu ag := (HK.out u25 BW.out).box
      go_wp2_with fail
      refine hK.out _ _ hS (fun hHeld => ?_)
      clear hK K hS
      refine wpAnyH_ready (rs := [24]) (by kernel_rfl) (by simp) ?_
      refine AllReadyH.cons (o := _) rfl (fun K hK => ?_) AllReadyH.nil
      go_simp
      have b : Below u25.heap.size u25 (u25.alloc (.cells #[.string kM, .int .i64 4, .int .i64 0, .string ⟨#[]⟩, .slice none 0 0, .slice ya ns.length yc, .string kZ, .int .i64 (nI (sz != 0) sz).k, .int .i64 (nI (sz != 0) sz).n, .string (nI (sz != 0) sz).s, .slice none 0 0, .slice none 0 0, .string kQ, .int .i64 (nI (qu != 0) qu).k, .int .i64 (nI (qu != 0) qu).n, .string (nI (qu != 0) qu).s, .slice none 0 0, .slice none 0 0, .string kV, .int .i64 (sI ab ag).k, .int .i64 (sI ab ag).n, .string (sI ab ag).s, .slice none 0 0, .slice none 0 0] 59)) := (Below.refl _ _).alloc (Nat.le_refl _) _
      have DG1 : Hid ((u25.alloc (.cells #[.string kM, .int .i64 4, .int .i64 0, .string ⟨#[]⟩, .slice none 0 0, .slice ya ns.length yc, .string kZ, .int .i64 (nI (sz != 0) sz).k, .int .i64 (nI (sz != 0) sz).n, .string (nI (sz != 0) sz).s, .slice none 0 0, .slice none 0 0, .string kQ, .int .i64 (nI (qu != 0) qu).k, .int .i64 (nI (qu != 0) qu).n, .string (nI (qu != 0) qu).s, .slice none 0 0, .slice none 0 0, .string kV, .int .i64 (sI ab ag).k, .int .i64 (sI ab ag).n, .string (sI ab ag).s, .slice none 0 0, .slice none 0 0] 59)).heap[u25.heap.size]? = some (.cells (gCs (ownQ ns sz qu ag ab (.slice ya ns.length yc))).toArray 59 (0, 0))) := heap_new _ _
      have BW2 : Hid (Below w0.heap.size w0 (u25.alloc (.cells #[.string kM, .int .i64 4, .int .i64 0, .string ⟨#[]⟩, .slice none 0 0, .slice ya ns.length yc, .string kZ, .int .i64 (nI (sz != 0) sz).k, .int .i64 (nI (sz != 0) sz).n, .string (nI (sz != 0) sz).s, .slice none 0 0, .slice none 0 0, .string kQ, .int .i64 (nI (qu != 0) qu).k, .int .i64 (nI (qu != 0) qu).n, .string (nI (qu != 0) qu).s, .slice none 0 0, .slice none 0 0, .string kV, .int .i64 (sI ab ag).k, .int .i64 (sI ab ag).n, .string (sI ab ag).s, .slice none 0 0, .slice none 0 0] 59))) := BW.out.trans (b.mono BW.out.size)
      clear BW
      have BW : Hid (Below w0.heap.size w0 (u25.alloc (.cells #[.string kM, .int .i64 4, .int .i64 0, .string ⟨#[]⟩, .slice none 0 0, .slice ya ns.length yc, .string kZ, .int .i64 (nI (sz != 0) sz).k, .int .i64 (nI (sz != 0) sz).n, .string (nI (sz != 0) sz).s, .slice none 0 0, .slice none 0 0, .string kQ, .int .i64 (nI (qu != 0) qu).k, .int .i64 (nI (qu != 0) qu).n, .string (nI (qu != 0) qu).s, .slice none 0 0, .slice none 0 0, .string kV, .int .i64 (sI ab ag).k, .int .i64 (sI ab ag).n, .string (sI ab ag).s, .slice none 0 0, .slice none 0 0] 59))) := BW2.out
      clear BW2
      have VN2 : Hid (RV (fun b => b ≠ da ∧ b ≠ H + 1) (u25.alloc (.cells #[.string kM, .int .i64 4, .int .i64 0, .string ⟨#[]⟩, .slice none 0 0, .slice ya ns.length yc, .string kZ, .int .i64 (nI (sz != 0) sz).k, .int .i64 (nI (sz != 0) sz).n, .string (nI (sz != 0) sz).s, .slice none 0 0, .slice none 0 0, .string kQ, .int .i64 (nI (qu != 0) qu).k, .int .i64 (nI (qu != 0) qu).n, .string (nI (qu != 0) qu).s, .slice none 0 0, .slice none 0 0, .string kV, .int .i64 (sI ab ag).k, .int .i64 (sI ab ag).n, .string (sI ab ag).s, .slice none 0 0, .slice none 0 0] 59)) (tG (nE ns)) (.slice none 0 0) (.slice ya ns.length yc)) := RV.keep (fun _ h => h) b.size (fun q _ hl => b.block q hl) _ _ _ VN.out
      clear VN
      have VN : Hid (RV (fun b => b ≠ da ∧ b ≠ H + 1) (u25.alloc (.cells #[.string kM, .int .i64 4, .int .i64 0, .string ⟨#[]⟩, .slice none 0 0, .slice ya ns.length yc, .string kZ, .int .i64 (nI (sz != 0) sz).k, .int .i64 (nI (sz != 0) sz).n, .string (nI (sz != 0) sz).s, .slice none 0 0, .slice none 0 0, .string kQ, .int .i64 (nI (qu != 0) qu).k, .int .i64 (nI (qu != 0) qu).n, .string (nI (qu != 0) qu).s, .slice none 0 0, .slice none 0 0, .string kV, .int .i64 (sI ab ag).k, .int .i64 (sI ab ag).n, .string (sI ab ag).s, .slice none 0 0, .slice none 0 0] 59)) (tG (nE ns)) (.slice none 0 0) (.slice ya ns.length yc)) := VN2.out
      clear VN2
      have AD2 : Hid ((u25.alloc (.cells #[.string kM, .int .i64 4, .int .i64 0, .string ⟨#[]⟩, .slice none 0 0, .slice ya ns.length yc, .string kZ, .int .i64 (nI (sz != 0) sz).k, .int .i64 (nI (sz != 0) sz).n, .string (nI (sz != 0) sz).s, .slice none 0 0, .slice none 0 0, .string kQ, .int .i64 (nI (qu != 0) qu).k, .int .i64 (nI (qu != 0) qu).n, .string (nI (qu != 0) qu).s, .slice none 0 0, .slice none 0 0, .string kV, .int .i64 (sI ab ag).k, .int .i64 (sI ab ag).n, .string (sI ab ag).s, .slice none 0 0, .slice none 0 0] 59)).heap[da]? = some (.cells #[.int .i64 0, .int .i64 0, .string ⟨#[]⟩, .slice none 0 0, .slice none 0 0] 56 (0, 0)) ∧ w0.heap.size ≤ da) := ⟨(b.block da (Array.getElem?_eq_some_iff.1 AD.out.1).1).trans AD.out.1, AD.out.2⟩
      clear AD
      have AD : Hid ((u25.alloc (.cells #[.string kM, .int .i64 4, .int .i64 0, .string ⟨#[]⟩, .slice none 0 0, .slice ya ns.length yc, .string kZ, .int .i64 (nI (sz != 0) sz).k, .int .i64 (nI (sz != 0) sz).n, .string (nI (sz != 0) sz).s, .slice none 0 0, .slice none 0 0, .string kQ, .int .i64 (nI (qu != 0) qu).k, .int .i64 (nI (qu != 0) qu).n, .string (nI (qu != 0) qu).s, .slice none 0 0, .slice none 0 0, .string kV, .int .i64 (sI ab ag).k, .int .i64 (sI ab ag).n, .string (sI ab ag).s, .slice none 0 0, .slice none 0 0] 59)).heap[da]? = some (.cells #[.int .i64 0, .int .i64 0, .string ⟨#[]⟩, .slice none 0 0, .slice none 0 0] 56 (0, 0)) ∧ w0.heap.size ≤ da) := AD2.out
      clear AD2
      clear b
      have hS : BoxC H (u25.alloc (.cells #[.string kM, .int .i64 4, .int .i64 0, .string ⟨#[]⟩, .slice none 0 0, .slice ya ns.length yc, .string kZ, .int .i64 (nI (sz != 0) sz).k, .int .i64 (nI (sz != 0) sz).n, .string (nI (sz != 0) sz).s, .slice none 0 0, .slice none 0 0, .string kQ, .int .i64 (nI (qu != 0) qu).k, .int .i64 (nI (qu != 0) qu).n, .string (nI (qu != 0) qu).s, .slice none 0 0, .slice none 0 0, .string kV, .int .i64 (sI ab ag).k, .int .i64 (sI ab ag).n, .string (sI ab ag).s, .slice none 0 0, .slice none 0 0] 59)) na ma nc mc ns.length es.length sz qu ag := (HK.out (u25.alloc (.cells #[.string kM, .int .i64 4, .int .i64 0, .string ⟨#[]⟩, .slice none 0 0, .slice ya ns.length yc, .string kZ, .int .i64 (nI (sz != 0) sz).k, .int .i64 (nI (sz != 0) sz).n, .string (nI (sz != 0) sz).s, .slice none 0 0, .slice none 0 0, .string kQ, .int .i64 (nI (qu != 0) qu).k, .int .i64 (nI (qu != 0) qu).n, .string (nI (qu != 0) qu).s, .slice none 0 0, .slice none 0 0, .string kV, .int .i64 (sI ab ag).k, .int .i64 (sI ab ag).n, .string (sI ab ag).s, .slice none 0 0, .slice none 0 0] 59)) BW.out).box
      refine hK.out _ _ hS (fun hHeld => ?_)
      clear hK K hS
      generalize (u25.alloc (.cells #[.string kM, .int .i64 4, .int .i64 0, .string ⟨#[]⟩, .slice none 0 0, .slice ya ns.length yc, .string kZ, .int .i64 (nI (sz != 0) sz).k, .int .i64 (nI (sz != 0) sz).n, .string (nI (sz != 0) sz).s, .slice none 0 0, .slice none 0 0, .string kQ, .int .i64 (nI (qu != 0) qu).k, .int .i64 (nI (qu != 0) qu).n, .string (nI (qu != 0) qu).s, .slice none 0 0, .slice none 0 0, .string kV, .int .i64 (sI ab ag).k, .int .i64 (sI ab ag).n, .string (sI ab ag).s, .slice none 0 0, .slice none 0 0] 59)) = u26 at *
      generalize u25.heap.size = g5 at *
      refine wpAnyH_ready (rs := [25]) (by kernel_rfl) (by simp) ?_
      refine AllReadyH.cons (o := _) rfl (fun K hK => ?_) AllReadyH.nil
      go_simp
      refine (dictionary48 es (ownQ ns sz qu ag ab (.slice ya ns.length yc)) _ _ 4 u26 ((HK.out u26 BW.out).2.2.2.2.mono (by have := (HK.out u26 BW.out).2.2.1; omega)) (.inr ⟨g5, rfl, DG1.out⟩) (fun e he => RV.keep (fun _ _ => trivial) (Nat.le_refl _) (fun _ _ _ => rfl) _ _ _ (own_rv VN.out e he)) (by show es.length + 4 ≤ _; omega)).mono ?_
      rintro e u27 ⟨v', es', rfl, hld, hgr, b⟩
      obtain ⟨va, vc, rfl⟩ := hgr.form
      clear DG1
      have DG1 : Hid (LD es (ownQ ns sz qu ag ab (.slice ya ns.length yc)) es' ∧ GR (u26.heap.size + 1) u26.heap.size u27 (.slice va es'.length vc) es' ∧ (∀ g l c, Value.slice va es'.length vc = .slice (some ⟨g, 0, none⟩) l c → g ≠ da) ∧ H + 2 ≤ u26.heap.size + 1) := ⟨hld, hgr, fun g l c hg => by (have h8 := GR_ge hgr hg; have h7 := (Array.getElem?_eq_some_iff.1 AD.out.1).1; omega), by have h6 := (HK.out u26 BW.out).2.2.1; omega⟩
      have BW2 : Hid (Below w0.heap.size w0 u27) := BW.out.trans (b.mono BW.out.size)
      clear BW
      have BW : Hid (Below w0.heap.size w0 u27) := BW2.out
      clear BW2
      have VN2 : Hid (RV (fun b => b ≠ da ∧ b ≠ H + 1) u27 (tG (nE ns)) (.slice none 0 0) (.slice ya ns.length yc)) := RV.keep (fun _ h => h) b.size (fun q _ hl => b.block q hl) _ _ _ VN.out
      clear VN
      have VN : Hid (RV (fun b => b ≠ da ∧ b ≠ H + 1) u27 (tG (nE ns)) (.slice none 0 0) (.slice ya ns.length yc)) := VN2.out
      clear VN2
      have AD2 : Hid (u27.heap[da]? = some (.cells #[.int .i64 0, .int .i64 0, .string ⟨#[]⟩, .slice none 0 0, .slice none 0 0] 56 (0, 0)) ∧ w0.heap.size ≤ da) := ⟨(b.block da (Array.getElem?_eq_some_iff.1 AD.out.1).1).trans AD.out.1, AD.out.2⟩
      clear AD
      have AD : Hid (u27.heap[da]? = some (.cells #[.int .i64 0, .int .i64 0, .string ⟨#[]⟩, .slice none 0 0, .slice none 0 0] 56 (0, 0)) ∧ w0.heap.size ≤ da) := AD2.out
      clear AD2
      clear b hld hgr
      have hS : BoxC H u27 na ma nc mc ns.length es.length sz qu ag := (HK.out u27 BW.out).box
      go_wp2_with fail
      refine hK.out _ _ hS (fun hHeld => ?_)
      clear hK K hS
      generalize u26.heap.size + 1 = B5 at *
      generalize u26.heap.size = A5 at *
      have hR := AD.out.1
      have r0 : u27.cell? ⟨da, 0, none⟩ = some (.int .i64 0) := by simp [World.cell?, hR]
      have r1 : u27.cell? ⟨da, 1, none⟩ = some (.int .i64 0) := by simp [World.cell?, hR]
      have r2 : u27.cell? ⟨da, 2, none⟩ = some (.string ⟨#[]⟩) := by simp [World.cell?, hR]
      have r3 : u27.cell? ⟨da, 3, none⟩ = some (.slice none 0 0) := by simp [World.cell?, hR]
      have r4 : u27.cell? ⟨da, 4, none⟩ = some (.slice none 0 0) := by simp [World.cell?, hR]
      have f0 : ∀ j, u27.frozen? ⟨da, j, none⟩ = false := fun j => by simp [World.frozen?, hR]
      have z0 := f0 0
      have z1 := f0 1
      have z2 := f0 2
      have z3 := f0 3
      have z4 := f0 4
      clear hR f0
      have HWE : Hid (WF46 w0 (((((u27.setCell ⟨da, 0, none⟩ (.int .i64 4)).setCell ⟨da, 1, none⟩ (.int .i64 0)).setCell ⟨da, 2, none⟩ (.string ⟨#[]⟩)).setCell ⟨da, 3, none⟩ (.slice none 0 0)).setCell ⟨da, 4, none⟩ (.slice va es'.length vc)) H da na ma nc mc ns sz qu ag es (ownQ ns sz qu ag ab (.slice ya ns.length yc)) es' va vc) := WF46.of HWZ.out BW.out AD.out DG1.out VN.out
      have hS : BoxC H (((((u27.setCell ⟨da, 0, none⟩ (.int .i64 4)).setCell ⟨da, 1, none⟩ (.int .i64 0)).setCell ⟨da, 2, none⟩ (.string ⟨#[]⟩)).setCell ⟨da, 3, none⟩ (.slice none 0 0)).setCell ⟨da, 4, none⟩ (.slice va es'.length vc)) na ma nc mc ns.length es.length sz qu ag := HWE.out.2.2.1
      refine wpAnyH_ready (rs := [27]) (by kernel_rfl) (by simp) ?_
      refine AllReadyH.cons (o := _) rfl (fun K hK => ?_) AllReadyH.nil
      go_simp
      refine hK.out _ _ hS (fun hHeld => ?_)
      clear hK K hS
      refine wpAnyH_done (by kernel_rfl) ?_ _
      clear hHeld
      clear r0 r1 r2 r3 r4 z0 z1 z2 z3 z4 VN AD DG1 BW
      generalize (((((u27.setCell ⟨da, 0, none⟩ (.int .i64 4)).setCell ⟨da, 1, none⟩ (.int .i64 0)).setCell ⟨da, 2, none⟩ (.string ⟨#[]⟩)).setCell ⟨da, 3, none⟩ (.slice none 0 0)).setCell ⟨da, 4, none⟩ (.slice va es'.length vc)) = wF at *
      have HD : Hid (∀ x, Below wF.heap.size wF x → x.cell? ⟨da, 0, none⟩ = some (.int .i64 4) ∧ x.cell? ⟨da, 1, none⟩ = some (.int .i64 0) ∧ x.cell? ⟨da, 2, none⟩ = some (.string ⟨#[]⟩) ∧ x.cell? ⟨da, 3, none⟩ = some (.slice none 0 0) ∧ x.cell? ⟨da, 4, none⟩ = some (.slice va es'.length vc)) := fun x hx => by
        have e9 : x.heap[da]? = _ := (hx.block da (Array.getElem?_eq_some_iff.1 HWE.out.2.2.2.2.1).1).trans HWE.out.2.2.2.2.1
        refine ⟨?_, ?_, ?_, ?_, ?_⟩ <;> simp [World.cell?, e9]
      have HOK : Hid ((tG es').ok) := tG_ok (by have h9 := HWE.out.1.len; simp only [ownQ, List.length_cons, List.length_nil] at h9; omega) (fun e he => (HWE.out.1.mem e he).elim (hke e) (own_ok (by omega) hkn hka e))
      have HV := Lib.hid (valid32G es' va vc wF.drew HOK.out (rd_keep (belowDrew1 wF) (fun _ _ => trivial) HWE.out.2.1))
      go_upto_region 4 with fail
      refine wp_region_held_drew (S := fun x => x.cell? ⟨da, 0, none⟩ = some (.int .i64 4) ∧ x.cell? ⟨da, 1, none⟩ = some (.int .i64 0) ∧ x.cell? ⟨da, 2, none⟩ = some (.string ⟨#[]⟩) ∧ x.cell? ⟨da, 3, none⟩ = some (.slice none 0 0) ∧ x.cell? ⟨da, 4, none⟩ = some (.slice va es'.length vc)) (by kernel_rfl) (HD.out _ (belowDrew1 wF)) (fun hHeld => ?_)
      refine wpAnyH_take (i := 0) (v := .agg #[.int .i64 4, .int .i64 0, .string ⟨#[]⟩, .slice none 0 0, .slice va es'.length vc]) rfl (by kernel_rfl) (by kernel_rfl) (by kernel_rfl) (fun _ _ _ h => h) (Or.inl ⟨by rfl, fun w hw => by obtain ⟨s0, s1, s2, s3, s4⟩ := hw; go_simp⟩) hHeld ?_
      simp only [Act.put, List.getElem_toArray, List.getElem_cons_zero, List.setIfInBounds_toArray, List.set_cons_zero, List.set_cons_succ]
      refine wpAnyH_take (i := 1) (v := .agg #[.int .i64 4, .int .i64 0, .string ⟨#[]⟩, .slice none 0 0, .slice va es'.length vc]) rfl (by kernel_rfl) (by kernel_rfl) (by kernel_rfl) (fun _ _ _ h => h) (Or.inl ⟨by rfl, fun w hw => by obtain ⟨s0, s1, s2, s3, s4⟩ := hw; go_simp⟩) hHeld ?_
      simp only [Act.put, List.getElem_toArray, List.getElem_cons_zero, List.getElem_cons_succ, List.setIfInBounds_toArray, List.set_cons_zero, List.set_cons_succ]
      refine wpAnyH_ready (rs := [2]) (by kernel_rfl) (by simp) ?_
      refine AllReadyH.cons (o := _) rfl (fun K hK => ?_) AllReadyH.nil
      go_simp
      refine HV.out.mono ?_
      rintro e wv ⟨rfl, b⟩
      have BV : Hid (Below wF.heap.size wF wv) := (belowDrew1 wF).trans (b.mono (Nat.le_refl _))
      have hS := HD.out wv BV.out
      clear b
      generalize hkk : wk (tG es') 0 = kk
      go_wp2_with fail
      refine hK.out _ _ hS (fun hHeld => ?_)
      clear hK K
      refine wpAnyH_take (i := 3) (v := .bool (kk == 0)) rfl (by kernel_rfl) (by kernel_rfl) (by kernel_rfl) (fun _ _ _ h => h) (Or.inl ⟨by rfl, fun w hw => by go_simp⟩) hHeld ?_
      simp only [Act.put, List.getElem_toArray, List.getElem_cons_zero, List.getElem_cons_succ, List.setIfInBounds_toArray, List.set_cons_zero, List.set_cons_succ]
      have hR := (HK.out wv (HWE.out.2.2.2.1.trans (BV.out.mono HWE.out.2.2.2.1.size))).2.1
      have r0 : wv.cell? ⟨H + 1, 0, none⟩ = some (.int .i64 0) := by simp [World.cell?, hR]
      have r1 : wv.cell? ⟨H + 1, 1, none⟩ = some (.int .i64 0) := by simp [World.cell?, hR]
      have r2 : wv.cell? ⟨H + 1, 2, none⟩ = some (.string ⟨#[]⟩) := by simp [World.cell?, hR]
      have r3 : wv.cell? ⟨H + 1, 3, none⟩ = some (.slice none 0 0) := by simp [World.cell?, hR]
      have r4 : wv.cell? ⟨H + 1, 4, none⟩ = some (.slice none 0 0) := by simp [World.cell?, hR]
      have f0 : ∀ j, wv.frozen? ⟨H + 1, j, none⟩ = false := fun j => by simp [World.frozen?, hR]
      have z0 := f0 0
      have z1 := f0 1
      have z2 := f0 2
      have z3 := f0 3
      have z4 := f0 4
      have HRR := Lib.hid hR
      clear hR f0
      have hS2 : (((((wv.setCell ⟨H + 1, 0, none⟩ (.int .i64 4)).setCell ⟨H + 1, 1, none⟩ (.int .i64 0)).setCell ⟨H + 1, 2, none⟩ (.string ⟨#[]⟩)).setCell ⟨H + 1, 3, none⟩ (.slice none 0 0)).setCell ⟨H + 1, 4, none⟩ (.slice va es'.length vc)).cell? ⟨da, 0, none⟩ = some (.int .i64 4) ∧ (((((wv.setCell ⟨H + 1, 0, none⟩ (.int .i64 4)).setCell ⟨H + 1, 1, none⟩ (.int .i64 0)).setCell ⟨H + 1, 2, none⟩ (.string ⟨#[]⟩)).setCell ⟨H + 1, 3, none⟩ (.slice none 0 0)).setCell ⟨H + 1, 4, none⟩ (.slice va es'.length vc)).cell? ⟨da, 1, none⟩ = some (.int .i64 0) ∧ (((((wv.setCell ⟨H + 1, 0, none⟩ (.int .i64 4)).setCell ⟨H + 1, 1, none⟩ (.int .i64 0)).setCell ⟨H + 1, 2, none⟩ (.string ⟨#[]⟩)).setCell ⟨H + 1, 3, none⟩ (.slice none 0 0)).setCell ⟨H + 1, 4, none⟩ (.slice va es'.length vc)).cell? ⟨da, 2, none⟩ = some (.string ⟨#[]⟩) ∧ (((((wv.setCell ⟨H + 1, 0, none⟩ (.int .i64 4)).setCell ⟨H + 1, 1, none⟩ (.int .i64 0)).setCell ⟨H + 1, 2, none⟩ (.string ⟨#[]⟩)).setCell ⟨H + 1, 3, none⟩ (.slice none 0 0)).setCell ⟨H + 1, 4, none⟩ (.slice va es'.length vc)).cell? ⟨da, 3, none⟩ = some (.slice none 0 0) ∧ (((((wv.setCell ⟨H + 1, 0, none⟩ (.int .i64 4)).setCell ⟨H + 1, 1, none⟩ (.int .i64 0)).setCell ⟨H + 1, 2, none⟩ (.string ⟨#[]⟩)).setCell ⟨H + 1, 3, none⟩ (.slice none 0 0)).setCell ⟨H + 1, 4, none⟩ (.slice va es'.length vc)).cell? ⟨da, 4, none⟩ = some (.slice va es'.length vc) := by
        have e8 := (besides5 wv (H + 1) (.int .i64 4) (.int .i64 0) (.string ⟨#[]⟩) (.slice none 0 0) (.slice va es'.length vc)).block da (Nat.lt_of_lt_of_le (Array.getElem?_eq_some_iff.1 HWE.out.2.2.2.2.1).1 BV.out.size) (by have h6 := HWE.out.2.2.2.2.2; have h5 := HWZ.out.2.2.1; omega)
        refine ⟨(World.cell?_of_block (w := wv) (a := ⟨da, 0, none⟩) e8).trans hS.1, (World.cell?_of_block (w := wv) (a := ⟨da, 1, none⟩) e8).trans hS.2.1, (World.cell?_of_block (w := wv) (a := ⟨da, 2, none⟩) e8).trans hS.2.2.1, (World.cell?_of_block (w := wv) (a := ⟨da, 3, none⟩) e8).trans hS.2.2.2.1, (World.cell?_of_block (w := wv) (a := ⟨da, 4, none⟩) e8).trans hS.2.2.2.2⟩
      refine wpAnyH_ready (rs := [4]) (by kernel_rfl) (by simp) ?_
      refine AllReadyH.cons (o := _) rfl (fun K hK => ?_) AllReadyH.nil
      go_simp
      refine hK.out _ _ hS2 (fun hHeld => ?_)
      clear hK K
      refine wpAnyH_ready (rs := [5]) (by kernel_rfl) (by simp) ?_
      refine AllReadyH.cons (o := _) rfl (fun K hK => ?_) AllReadyH.nil
      go_simp
      refine hK.out _ _ hS2 (fun hHeld => ?_)
      clear hK K
      refine wpAnyH_done (by kernel_rfl) ?_ _
      clear hHeld
      clear hS hS2 r0 r1 r2 r3 r4 z0 z1 z2 z3 z4
      go_wp2
      refine bodyPost_ret (v := .tuple #[.agg #[.int .i64 4, .int .i64 0, .string ⟨#[]⟩, .slice none 0 0, .slice va es'.length vc], .bool (kk == 0)]) (results_cell2 Try.results46 _ _ (H + 1) _ rfl (ow.set (ow.set (ow.set (ow.set (ow.set HRR.out 0 _) 1 _) 2 _) 3 _) 4 _) rfl) rfl ⟨.slice ya ns.length yc, .slice va es'.length vc, es', by rw [hkk], ?_, ?_, ?_⟩
      · rw [show ownP ns sz qu ag (.slice ya ns.length yc) = ownQ ns sz qu ag ab (.slice ya ns.length yc) by unfold ownP; rw [HAB.out]]
        exact HWE.out.1
      · exact ⟨⟨none, 0, rfl, .inl rfl⟩, rd_besides (besides5 _ _ _ _ _ _ _) (rd_keep BV.out (fun _ h => h) HWE.out.2.1)⟩
      · rw [HS.out]
        exact below5 (HB0.out.trans ((HWE.out.2.2.2.1.trans (BV.out.mono HWE.out.2.2.2.1.size)).mono (by have h5 := HWZ.out.2.2.1; omega))) (by omega) _ _ _ _ _
  · go_simp
    have bz : Below wd.heap.size wd (wd.alloc (.cells #[.int .i64 0, .int .i64 0, .string ⟨#[]⟩, .slice none 0 0, .slice none 0 0] 56)) := (Below.refl _ _).alloc (Nat.le_refl _) _
    have AD : Hid ((wd.alloc (.cells #[.int .i64 0, .int .i64 0, .string ⟨#[]⟩, .slice none 0 0, .slice none 0 0] 56)).heap[wd.heap.size]? = some (.cells #[.int .i64 0, .int .i64 0, .string ⟨#[]⟩, .slice none 0 0, .slice none 0 0] 56 (0, 0)) ∧ w0.heap.size ≤ wd.heap.size) := ⟨heap_new _ _, BW.out.size⟩
    have BW2 : Hid (Below w0.heap.size w0 (wd.alloc (.cells #[.int .i64 0, .int .i64 0, .string ⟨#[]⟩, .slice none 0 0, .slice none 0 0] 56))) := BW.out.trans (bz.mono BW.out.size)
    clear BW
    have BW : Hid (Below w0.heap.size w0 (wd.alloc (.cells #[.int .i64 0, .int .i64 0, .string ⟨#[]⟩, .slice none 0 0, .slice none 0 0] 56))) := BW2.out
    clear BW2
    have hS : BoxC H (wd.alloc (.cells #[.int .i64 0, .int .i64 0, .string ⟨#[]⟩, .slice none 0 0, .slice none 0 0] 56)) na ma nc mc ns.length es.length sz qu ag := (HK.out (wd.alloc (.cells #[.int .i64 0, .int .i64 0, .string ⟨#[]⟩, .slice none 0 0, .slice none 0 0] 56)) BW.out).box
    refine hK.out _ _ hS (fun hHeld => ?_)
    clear hK K hS
    clear bz
    generalize wd.alloc (.cells #[.int .i64 0, .int .i64 0, .string ⟨#[]⟩, .slice none 0 0, .slice none 0 0] 56) = a28 at *
    generalize wd.heap.size = da at *
    refine wpAnyH_ready (rs := [4]) (by kernel_rfl) (by simp) ?_
    refine AllReadyH.cons (o := _) rfl (fun K hK => ?_) AllReadyH.nil
    go_simp
    refine (namesDict57 _ ns a28 (HK.out a28 BW.out).2.2.2.1 (by omega)).mono ?_
    rintro e u29 ⟨v', rfl, hrd, b⟩
    obtain ⟨ya, yc, rfl⟩ : ∃ ya yc, v' = .slice ya ns.length yc := by obtain ⟨a, c, e, _⟩ := hrd; exact ⟨a, c, e⟩
    have VN : Hid (RV (fun b => b ≠ da ∧ b ≠ H + 1) u29 (tG (nE ns)) (.slice none 0 0) (.slice ya ns.length yc)) := RV.move (fun q hq _ => (by have h6 := (HK.out a28 BW.out).2.2.1; have h7 := (Array.getElem?_eq_some_iff.1 AD.out.1).1; exact ⟨by omega, by omega⟩)) (Nat.le_refl _) (fun _ _ _ => rfl) _ _ _ (show RV (fun b => a28.heap.size ≤ b) u29 (tG (nE ns)) (.slice none 0 0) (.slice ya ns.length yc) from ⟨⟨none, 0, rfl, .inl rfl⟩, by rw [nE_len]; exact hrd⟩)
    have BW2 : Hid (Below w0.heap.size w0 u29) := BW.out.trans (b.mono BW.out.size)
    clear BW
    have BW : Hid (Below w0.heap.size w0 u29) := BW2.out
    clear BW2
    have AD2 : Hid (u29.heap[da]? = some (.cells #[.int .i64 0, .int .i64 0, .string ⟨#[]⟩, .slice none 0 0, .slice none 0 0] 56 (0, 0)) ∧ w0.heap.size ≤ da) := ⟨(b.block da (Array.getElem?_eq_some_iff.1 AD.out.1).1).trans AD.out.1, AD.out.2⟩
    clear AD
    have AD : Hid (u29.heap[da]? = some (.cells #[.int .i64 0, .int .i64 0, .string ⟨#[]⟩, .slice none 0 0, .slice none 0 0] 56 (0, 0)) ∧ w0.heap.size ≤ da) := AD2.out
    clear AD2
    clear b hrd
    have hS : BoxC H u29 na ma nc mc ns.length es.length sz qu ag := (HK.out u29 BW.out).box
    go_wp2_with fail
    refine hK.out _ _ hS (fun hHeld => ?_)
    clear hK K hS
    refine wpAnyH_take (i := 5) (v := .agg #[.string kM, .int .i64 4, .int .i64 0, .string ⟨#[]⟩, .slice none 0 0, .slice ya ns.length yc]) rfl (by kernel_rfl) (by kernel_rfl) (by kernel_rfl) (fun _ _ _ h => h) (Or.inl ⟨by rfl, fun w hw => by go_simp; rfl⟩) hHeld ?_
    simp only [Act.put, List.getElem_toArray, List.getElem_cons_zero, List.getElem_cons_succ, List.setIfInBounds_toArray, List.set_cons_zero, List.set_cons_succ]
    refine wpAnyH_ready (rs := [11]) (by kernel_rfl) (by simp) ?_
    refine AllReadyH.cons (o := _) rfl (fun K hK => ?_) AllReadyH.nil
    go_simp
    refine (numberIf58x (sz != 0) kZ sz u29).mono ?_
    rintro e u30 ⟨rfl, b⟩
    have BW2 : Hid (Below w0.heap.size w0 u30) := BW.out.trans (b.mono BW.out.size)
    clear BW
    have BW : Hid (Below w0.heap.size w0 u30) := BW2.out
    clear BW2
    have VN2 : Hid (RV (fun b => b ≠ da ∧ b ≠ H + 1) u30 (tG (nE ns)) (.slice none 0 0) (.slice ya ns.length yc)) := RV.keep (fun _ h => h) b.size (fun q _ hl => b.block q hl) _ _ _ VN.out
    clear VN
    have VN : Hid (RV (fun b => b ≠ da ∧ b ≠ H + 1) u30 (tG (nE ns)) (.slice none 0 0) (.slice ya ns.length yc)) := VN2.out
    clear VN2
    have AD2 : Hid (u30.heap[da]? = some (.cells #[.int .i64 0, .int .i64 0, .string ⟨#[]⟩, .slice none 0 0, .slice none 0 0] 56 (0, 0)) ∧ w0.heap.size ≤ da) := ⟨(b.block da (Array.getElem?_eq_some_iff.1 AD.out.1).1).trans AD.out.1, AD.out.2⟩
    clear AD
    have AD : Hid (u30.heap[da]? = some (.cells #[.int .i64 0, .int .i64 0, .string ⟨#[]⟩, .slice none 0 0, .slice none 0 0] 56 (0, 0)) ∧ w0.heap.size ≤ da) := AD2.out
    clear AD2
    clear b
    have hS : BoxC H u30 na ma nc mc ns.length es.length sz qu ag := (HK.out u30 BW.out).box
    go_wp2_with fail
    refine hK.out _ _ hS (fun hHeld => ?_)
    clear hK K hS
    refine wpAnyH_ready (rs := [17]) (by kernel_rfl) (by simp) ?_
    refine AllReadyH.cons (o := _) rfl (fun K hK => ?_) AllReadyH.nil
    go_simp
    refine (numberIf58x (qu != 0) kQ qu u30).mono ?_
    rintro e u31 ⟨rfl, b⟩
    have BW2 : Hid (Below w0.heap.size w0 u31) := BW.out.trans (b.mono BW.out.size)
    clear BW
    have BW : Hid (Below w0.heap.size w0 u31) := BW2.out
    clear BW2
    have VN2 : Hid (RV (fun b => b ≠ da ∧ b ≠ H + 1) u31 (tG (nE ns)) (.slice none 0 0) (.slice ya ns.length yc)) := RV.keep (fun _ h => h) b.size (fun q _ hl => b.block q hl) _ _ _ VN.out
    clear VN
    have VN : Hid (RV (fun b => b ≠ da ∧ b ≠ H + 1) u31 (tG (nE ns)) (.slice none 0 0) (.slice ya ns.length yc)) := VN2.out
    clear VN2
    have AD2 : Hid (u31.heap[da]? = some (.cells #[.int .i64 0, .int .i64 0, .string ⟨#[]⟩, .slice none 0 0, .slice none 0 0] 56 (0, 0)) ∧ w0.heap.size ≤ da) := ⟨(b.block da (Array.getElem?_eq_some_iff.1 AD.out.1).1).trans AD.out.1, AD.out.2⟩
    clear AD
    have AD : Hid (u31.heap[da]? = some (.cells #[.int .i64 0, .int .i64 0, .string ⟨#[]⟩, .slice none 0 0, .slice none 0 0] 56 (0, 0)) ∧ w0.heap.size ≤ da) := AD2.out
    clear AD2
    clear b
    have hS : BoxC H u31 na ma nc mc ns.length es.length sz qu ag := (HK.out u31 BW.out).box
    go_wp2_with fail
    refine hK.out _ _ hS (fun hHeld => ?_)
    clear hK K hS
    refine wpAnyH_ready (rs := [23]) (by kernel_rfl) (by simp) ?_
    refine AllReadyH.cons (o := _) rfl (fun K hK => ?_) AllReadyH.nil
    go_simp
    refine (textIf59x ab kV ag u31).mono ?_
    rintro e u32 ⟨rfl, b⟩
    have BW2 : Hid (Below w0.heap.size w0 u32) := BW.out.trans (b.mono BW.out.size)
    clear BW
    have BW : Hid (Below w0.heap.size w0 u32) := BW2.out
    clear BW2
    have VN2 : Hid (RV (fun b => b ≠ da ∧ b ≠ H + 1) u32 (tG (nE ns)) (.slice none 0 0) (.slice ya ns.length yc)) := RV.keep (fun _ h => h) b.size (fun q _ hl => b.block q hl) _ _ _ VN.out
    clear VN
    have VN : Hid (RV (fun b => b ≠ da ∧ b ≠ H + 1) u32 (tG (nE ns)) (.slice none 0 0) (.slice ya ns.length yc)) := VN2.out
    clear VN2
    have AD2 : Hid (u32.heap[da]? = some (.cells #[.int .i64 0, .int .i64 0, .string ⟨#[]⟩, .slice none 0 0, .slice none 0 0] 56 (0, 0)) ∧ w0.heap.size ≤ da) := ⟨(b.block da (Array.getElem?_eq_some_iff.1 AD.out.1).1).trans AD.out.1, AD.out.2⟩
    clear AD
    have AD : Hid (u32.heap[da]? = some (.cells #[.int .i64 0, .int .i64 0, .string ⟨#[]⟩, .slice none 0 0, .slice none 0 0] 56 (0, 0)) ∧ w0.heap.size ≤ da) := AD2.out
    clear AD2
    clear b
    have hS : BoxC H u32 na ma nc mc ns.length es.length sz qu ag := (HK.out u32 BW.out).box
    go_wp2_with fail
    refine hK.out _ _ hS (fun hHeld => ?_)
    clear hK K hS
    refine wpAnyH_ready (rs := [24]) (by kernel_rfl) (by simp) ?_
    refine AllReadyH.cons (o := _) rfl (fun K hK => ?_) AllReadyH.nil
    go_simp
    have b : Below u32.heap.size u32 (u32.alloc (.cells #[.string kM, .int .i64 4, .int .i64 0, .string ⟨#[]⟩, .slice none 0 0, .slice ya ns.length yc, .string kZ, .int .i64 (nI (sz != 0) sz).k, .int .i64 (nI (sz != 0) sz).n, .string (nI (sz != 0) sz).s, .slice none 0 0, .slice none 0 0, .string kQ, .int .i64 (nI (qu != 0) qu).k, .int .i64 (nI (qu != 0) qu).n, .string (nI (qu != 0) qu).s, .slice none 0 0, .slice none 0 0, .string kV, .int .i64 (sI ab ag).k, .int .i64 (sI ab ag).n, .string (sI ab ag).s, .slice none 0 0, .slice none 0 0] 59)) := (Below.refl _ _).alloc (Nat.le_refl _) _
    have DG1 : Hid ((u32.alloc (.cells #[.string kM, .int .i64 4, .int .i64 0, .string ⟨#[]⟩, .slice none 0 0, .slice ya ns.length yc, .string kZ, .int .i64 (nI (sz != 0) sz).k, .int .i64 (nI (sz != 0) sz).n, .string (nI (sz != 0) sz).s, .slice none 0 0, .slice none 0 0, .string kQ, .int .i64 (nI (qu != 0) qu).k, .int .i64 (nI (qu != 0) qu).n, .string (nI (qu != 0) qu).s, .slice none 0 0, .slice none 0 0, .string kV, .int .i64 (sI ab ag).k, .int .i64 (sI ab ag).n, .string (sI ab ag).s, .slice none 0 0, .slice none 0 0] 59)).heap[u32.heap.size]? = some (.cells (gCs (ownQ ns sz qu ag ab (.slice ya ns.length yc))).toArray 59 (0, 0))) := heap_new _ _
    have BW2 : Hid (Below w0.heap.size w0 (u32.alloc (.cells #[.string kM, .int .i64 4, .int .i64 0, .string ⟨#[]⟩, .slice none 0 0, .slice ya ns.length yc, .string kZ, .int .i64 (nI (sz != 0) sz).k, .int .i64 (nI (sz != 0) sz).n, .string (nI (sz != 0) sz).s, .slice none 0 0, .slice none 0 0, .string kQ, .int .i64 (nI (qu != 0) qu).k, .int .i64 (nI (qu != 0) qu).n, .string (nI (qu != 0) qu).s, .slice none 0 0, .slice none 0 0, .string kV, .int .i64 (sI ab ag).k, .int .i64 (sI ab ag).n, .string (sI ab ag).s, .slice none 0 0, .slice none 0 0] 59))) := BW.out.trans (b.mono BW.out.size)
    clear BW
    have BW : Hid (Below w0.heap.size w0 (u32.alloc (.cells #[.string kM, .int .i64 4, .int .i64 0, .string ⟨#[]⟩, .slice none 0 0, .slice ya ns.length yc, .string kZ, .int .i64 (nI (sz != 0) sz).k, .int .i64 (nI (sz != 0) sz).n, .string (nI (sz != 0) sz).s, .slice none 0 0, .slice none 0 0, .string kQ, .int .i64 (nI (qu != 0) qu).k, .int .i64 (nI (qu != 0) qu).n, .string (nI (qu != 0) qu).s, .slice none 0 0, .slice none 0 0, .string kV, .int .i64 (sI ab ag).k, .int .i64 (sI ab ag).n, .string (sI ab ag).s, .slice none 0 0, .slice none 0 0] 59))) := BW2.out
    clear BW2
    have VN2 : Hid (RV (fun b => b ≠ da ∧ b ≠ H + 1) (u32.alloc (.cells #[.string kM, .int .i64 4, .int .i64 0, .string ⟨#[]⟩, .slice none 0 0, .slice ya ns.length yc, .string kZ, .int .i64 (nI (sz != 0) sz).k, .int .i64 (nI (sz != 0) sz).n, .string (nI (sz != 0) sz).s, .slice none 0 0, .slice none 0 0, .string kQ, .int .i64 (nI (qu != 0) qu).k, .int .i64 (nI (qu != 0) qu).n, .string (nI (qu != 0) qu).s, .slice none 0 0, .slice none 0 0, .string kV, .int .i64 (sI ab ag).k, .int .i64 (sI ab ag).n, .string (sI ab ag).s, .slice none 0 0, .slice none 0 0] 59)) (tG (nE ns)) (.slice none 0 0) (.slice ya ns.length yc)) := RV.keep (fun _ h => h) b.size (fun q _ hl => b.block q hl) _ _ _ VN.out
    clear VN
    have VN : Hid (RV (fun b => b ≠ da ∧ b ≠ H + 1) (u32.alloc (.cells #[.string kM, .int .i64 4, .int .i64 0, .string ⟨#[]⟩, .slice none 0 0, .slice ya ns.length yc, .string kZ, .int .i64 (nI (sz != 0) sz).k, .int .i64 (nI (sz != 0) sz).n, .string (nI (sz != 0) sz).s, .slice none 0 0, .slice none 0 0, .string kQ, .int .i64 (nI (qu != 0) qu).k, .int .i64 (nI (qu != 0) qu).n, .string (nI (qu != 0) qu).s, .slice none 0 0, .slice none 0 0, .string kV, .int .i64 (sI ab ag).k, .int .i64 (sI ab ag).n, .string (sI ab ag).s, .slice none 0 0, .slice none 0 0] 59)) (tG (nE ns)) (.slice none 0 0) (.slice ya ns.length yc)) := VN2.out
    clear VN2
    have AD2 : Hid ((u32.alloc (.cells #[.string kM, .int .i64 4, .int .i64 0, .string ⟨#[]⟩, .slice none 0 0, .slice ya ns.length yc, .string kZ, .int .i64 (nI (sz != 0) sz).k, .int .i64 (nI (sz != 0) sz).n, .string (nI (sz != 0) sz).s, .slice none 0 0, .slice none 0 0, .string kQ, .int .i64 (nI (qu != 0) qu).k, .int .i64 (nI (qu != 0) qu).n, .string (nI (qu != 0) qu).s, .slice none 0 0, .slice none 0 0, .string kV, .int .i64 (sI ab ag).k, .int .i64 (sI ab ag).n, .string (sI ab ag).s, .slice none 0 0, .slice none 0 0] 59)).heap[da]? = some (.cells #[.int .i64 0, .int .i64 0, .string ⟨#[]⟩, .slice none 0 0, .slice none 0 0] 56 (0, 0)) ∧ w0.heap.size ≤ da) := ⟨(b.block da (Array.getElem?_eq_some_iff.1 AD.out.1).1).trans AD.out.1, AD.out.2⟩
    clear AD
    have AD : Hid ((u32.alloc (.cells #[.string kM, .int .i64 4, .int .i64 0, .string ⟨#[]⟩, .slice none 0 0, .slice ya ns.length yc, .string kZ, .int .i64 (nI (sz != 0) sz).k, .int .i64 (nI (sz != 0) sz).n, .string (nI (sz != 0) sz).s, .slice none 0 0, .slice none 0 0, .string kQ, .int .i64 (nI (qu != 0) qu).k, .int .i64 (nI (qu != 0) qu).n, .string (nI (qu != 0) qu).s, .slice none 0 0, .slice none 0 0, .string kV, .int .i64 (sI ab ag).k, .int .i64 (sI ab ag).n, .string (sI ab ag).s, .slice none 0 0, .slice none 0 0] 59)).heap[da]? = some (.cells #[.int .i64 0, .int .i64 0, .string ⟨#[]⟩, .slice none 0 0, .slice none 0 0] 56 (0, 0)) ∧ w0.heap.size ≤ da) := AD2.out
    clear AD2
    clear b
    have hS : BoxC H (u32.alloc (.cells #[.string kM, .int .i64 4, .int .i64 0, .string ⟨#[]⟩, .slice none 0 0, .slice ya ns.length yc, .string kZ, .int .i64 (nI (sz != 0) sz).k, .int .i64 (nI (sz != 0) sz).n, .string (nI (sz != 0) sz).s, .slice none 0 0, .slice none 0 0, .string kQ, .int .i64 (nI (qu != 0) qu).k, .int .i64 (nI (qu != 0) qu).n, .string (nI (qu != 0) qu).s, .slice none 0 0, .slice none 0 0, .string kV, .int .i64 (sI ab ag).k, .int .i64 (sI ab ag).n, .string (sI ab ag).s, .slice none 0 0, .slice none 0 0] 59)) na ma nc mc ns.length es.length sz qu ag := (HK.out (u32.alloc (.cells #[.string kM, .int .i64 4, .int .i64 0, .string ⟨#[]⟩, .slice none 0 0, .slice ya ns.length yc, .string kZ, .int .i64 (nI (sz != 0) sz).k, .int .i64 (nI (sz != 0) sz).n, .string (nI (sz != 0) sz).s, .slice none 0 0, .slice none 0 0, .string kQ, .int .i64 (nI (qu != 0) qu).k, .int .i64 (nI (qu != 0) qu).n, .string (nI (qu != 0) qu).s, .slice none 0 0, .slice none 0 0, .string kV, .int .i64 (sI ab ag).k, .int .i64 (sI ab ag).n, .string (sI ab ag).s, .slice none 0 0, .slice none 0 0] 59)) BW.out).box
    refine hK.out _ _ hS (fun hHeld => ?_)
    clear hK K hS
    generalize (u32.alloc (.cells #[.string kM, .int .i64 4, .int .i64 0, .string ⟨#[]⟩, .slice none 0 0, .slice ya ns.length yc, .string kZ, .int .i64 (nI (sz != 0) sz).k, .int .i64 (nI (sz != 0) sz).n, .string (nI (sz != 0) sz).s, .slice none 0 0, .slice none 0 0, .string kQ, .int .i64 (nI (qu != 0) qu).k, .int .i64 (nI (qu != 0) qu).n, .string (nI (qu != 0) qu).s, .slice none 0 0, .slice none 0 0, .string kV, .int .i64 (sI ab ag).k, .int .i64 (sI ab ag).n, .string (sI ab ag).s, .slice none 0 0, .slice none 0 0] 59)) = u33 at *
    generalize u32.heap.size = g5 at *
    refine wpAnyH_ready (rs := [25]) (by kernel_rfl) (by simp) ?_
    refine AllReadyH.cons (o := _) rfl (fun K hK => ?_) AllReadyH.nil
    go_simp
    refine (dictionary48 es (ownQ ns sz qu ag ab (.slice ya ns.length yc)) _ _ 4 u33 ((HK.out u33 BW.out).2.2.2.2.mono (by have := (HK.out u33 BW.out).2.2.1; omega)) (.inr ⟨g5, rfl, DG1.out⟩) (fun e he => RV.keep (fun _ _ => trivial) (Nat.le_refl _) (fun _ _ _ => rfl) _ _ _ (own_rv VN.out e he)) (by show es.length + 4 ≤ _; omega)).mono ?_
    rintro e u34 ⟨v', es', rfl, hld, hgr, b⟩
    obtain ⟨va, vc, rfl⟩ := hgr.form
    clear DG1
    have DG1 : Hid (LD es (ownQ ns sz qu ag ab (.slice ya ns.length yc)) es' ∧ GR (u33.heap.size + 1) u33.heap.size u34 (.slice va es'.length vc) es' ∧ (∀ g l c, Value.slice va es'.length vc = .slice (some ⟨g, 0, none⟩) l c → g ≠ da) ∧ H + 2 ≤ u33.heap.size + 1) := ⟨hld, hgr, fun g l c hg => by (have h8 := GR_ge hgr hg; have h7 := (Array.getElem?_eq_some_iff.1 AD.out.1).1; omega), by have h6 := (HK.out u33 BW.out).2.2.1; omega⟩
    have BW2 : Hid (Below w0.heap.size w0 u34) := BW.out.trans (b.mono BW.out.size)
    clear BW
    have BW : Hid (Below w0.heap.size w0 u34) := BW2.out
    clear BW2
    have VN2 : Hid (RV (fun b => b ≠ da ∧ b ≠ H + 1) u34 (tG (nE ns)) (.slice none 0 0) (.slice ya ns.length yc)) := RV.keep (fun _ h => h) b.size (fun q _ hl => b.block q hl) _ _ _ VN.out
    clear VN
    have VN : Hid (RV (fun b => b ≠ da ∧ b ≠ H + 1) u34 (tG (nE ns)) (.slice none 0 0) (.slice ya ns.length yc)) := VN2.out
    clear VN2
    have AD2 : Hid (u34.heap[da]? = some (.cells #[.int .i64 0, .int .i64 0, .string ⟨#[]⟩, .slice none 0 0, .slice none 0 0] 56 (0, 0)) ∧ w0.heap.size ≤ da) := ⟨(b.block da (Array.getElem?_eq_some_iff.1 AD.out.1).1).trans AD.out.1, AD.out.2⟩
    clear AD
    have AD : Hid (u34.heap[da]? = some (.cells #[.int .i64 0, .int .i64 0, .string ⟨#[]⟩, .slice none 0 0, .slice none 0 0] 56 (0, 0)) ∧ w0.heap.size ≤ da) := AD2.out
    clear AD2
    clear b hld hgr
    have hS : BoxC H u34 na ma nc mc ns.length es.length sz qu ag := (HK.out u34 BW.out).box
    go_wp2_with fail
    refine hK.out _ _ hS (fun hHeld => ?_)
    clear hK K hS
    generalize u33.heap.size + 1 = B5 at *
    generalize u33.heap.size = A5 at *
    have hR := AD.out.1
    have r0 : u34.cell? ⟨da, 0, none⟩ = some (.int .i64 0) := by simp [World.cell?, hR]
    have r1 : u34.cell? ⟨da, 1, none⟩ = some (.int .i64 0) := by simp [World.cell?, hR]
    have r2 : u34.cell? ⟨da, 2, none⟩ = some (.string ⟨#[]⟩) := by simp [World.cell?, hR]
    have r3 : u34.cell? ⟨da, 3, none⟩ = some (.slice none 0 0) := by simp [World.cell?, hR]
    have r4 : u34.cell? ⟨da, 4, none⟩ = some (.slice none 0 0) := by simp [World.cell?, hR]
    have f0 : ∀ j, u34.frozen? ⟨da, j, none⟩ = false := fun j => by simp [World.frozen?, hR]
    have z0 := f0 0
    have z1 := f0 1
    have z2 := f0 2
    have z3 := f0 3
    have z4 := f0 4
    clear hR f0
    have HWE : Hid (WF46 w0 (((((u34.setCell ⟨da, 0, none⟩ (.int .i64 4)).setCell ⟨da, 1, none⟩ (.int .i64 0)).setCell ⟨da, 2, none⟩ (.string ⟨#[]⟩)).setCell ⟨da, 3, none⟩ (.slice none 0 0)).setCell ⟨da, 4, none⟩ (.slice va es'.length vc)) H da na ma nc mc ns sz qu ag es (ownQ ns sz qu ag ab (.slice ya ns.length yc)) es' va vc) := WF46.of HWZ.out BW.out AD.out DG1.out VN.out
    have hS : BoxC H (((((u34.setCell ⟨da, 0, none⟩ (.int .i64 4)).setCell ⟨da, 1, none⟩ (.int .i64 0)).setCell ⟨da, 2, none⟩ (.string ⟨#[]⟩)).setCell ⟨da, 3, none⟩ (.slice none 0 0)).setCell ⟨da, 4, none⟩ (.slice va es'.length vc)) na ma nc mc ns.length es.length sz qu ag := HWE.out.2.2.1
    refine wpAnyH_ready (rs := [27]) (by kernel_rfl) (by simp) ?_
    refine AllReadyH.cons (o := _) rfl (fun K hK => ?_) AllReadyH.nil
    go_simp
    refine hK.out _ _ hS (fun hHeld => ?_)
    clear hK K hS
    refine wpAnyH_done (by kernel_rfl) ?_ _
    clear hHeld
    clear r0 r1 r2 r3 r4 z0 z1 z2 z3 z4 VN AD DG1 BW
    generalize (((((u34.setCell ⟨da, 0, none⟩ (.int .i64 4)).setCell ⟨da, 1, none⟩ (.int .i64 0)).setCell ⟨da, 2, none⟩ (.string ⟨#[]⟩)).setCell ⟨da, 3, none⟩ (.slice none 0 0)).setCell ⟨da, 4, none⟩ (.slice va es'.length vc)) = wF at *
    have HD : Hid (∀ x, Below wF.heap.size wF x → x.cell? ⟨da, 0, none⟩ = some (.int .i64 4) ∧ x.cell? ⟨da, 1, none⟩ = some (.int .i64 0) ∧ x.cell? ⟨da, 2, none⟩ = some (.string ⟨#[]⟩) ∧ x.cell? ⟨da, 3, none⟩ = some (.slice none 0 0) ∧ x.cell? ⟨da, 4, none⟩ = some (.slice va es'.length vc)) := fun x hx => by
      have e9 : x.heap[da]? = _ := (hx.block da (Array.getElem?_eq_some_iff.1 HWE.out.2.2.2.2.1).1).trans HWE.out.2.2.2.2.1
      refine ⟨?_, ?_, ?_, ?_, ?_⟩ <;> simp [World.cell?, e9]
    have HOK : Hid ((tG es').ok) := tG_ok (by have h9 := HWE.out.1.len; simp only [ownQ, List.length_cons, List.length_nil] at h9; omega) (fun e he => (HWE.out.1.mem e he).elim (hke e) (own_ok (by omega) hkn hka e))
    have HV := Lib.hid (valid32G es' va vc wF.drew HOK.out (rd_keep (belowDrew1 wF) (fun _ _ => trivial) HWE.out.2.1))
    go_upto_region 4 with fail
    refine wp_region_held_drew (S := fun x => x.cell? ⟨da, 0, none⟩ = some (.int .i64 4) ∧ x.cell? ⟨da, 1, none⟩ = some (.int .i64 0) ∧ x.cell? ⟨da, 2, none⟩ = some (.string ⟨#[]⟩) ∧ x.cell? ⟨da, 3, none⟩ = some (.slice none 0 0) ∧ x.cell? ⟨da, 4, none⟩ = some (.slice va es'.length vc)) (by kernel_rfl) (HD.out _ (belowDrew1 wF)) (fun hHeld => ?_)
    refine wpAnyH_take (i := 0) (v := .agg #[.int .i64 4, .int .i64 0, .string ⟨#[]⟩, .slice none 0 0, .slice va es'.length vc]) rfl (by kernel_rfl) (by kernel_rfl) (by kernel_rfl) (fun _ _ _ h => h) (Or.inl ⟨by rfl, fun w hw => by obtain ⟨s0, s1, s2, s3, s4⟩ := hw; go_simp⟩) hHeld ?_
    simp only [Act.put, List.getElem_toArray, List.getElem_cons_zero, List.setIfInBounds_toArray, List.set_cons_zero, List.set_cons_succ]
    refine wpAnyH_take (i := 1) (v := .agg #[.int .i64 4, .int .i64 0, .string ⟨#[]⟩, .slice none 0 0, .slice va es'.length vc]) rfl (by kernel_rfl) (by kernel_rfl) (by kernel_rfl) (fun _ _ _ h => h) (Or.inl ⟨by rfl, fun w hw => by obtain ⟨s0, s1, s2, s3, s4⟩ := hw; go_simp⟩) hHeld ?_
    simp only [Act.put, List.getElem_toArray, List.getElem_cons_zero, List.getElem_cons_succ, List.setIfInBounds_toArray, List.set_cons_zero, List.set_cons_succ]
    refine wpAnyH_ready (rs := [2]) (by kernel_rfl) (by simp) ?_
    refine AllReadyH.cons (o := _) rfl (fun K hK => ?_) AllReadyH.nil
    go_simp
    refine HV.out.mono ?_
    rintro e wv ⟨rfl, b⟩
    have BV : Hid (Below wF.heap.size wF wv) := (belowDrew1 wF).trans (b.mono (Nat.le_refl _))
    have hS := HD.out wv BV.out
    clear b
    generalize hkk : wk (tG es') 0 = kk
    go_wp2_with fail
    refine hK.out _ _ hS (fun hHeld => ?_)
    clear hK K
    refine wpAnyH_take (i := 3) (v := .bool (kk == 0)) rfl (by kernel_rfl) (by kernel_rfl) (by kernel_rfl) (fun _ _ _ h => h) (Or.inl ⟨by rfl, fun w hw => by go_simp⟩) hHeld ?_
    simp only [Act.put, List.getElem_toArray, List.getElem_cons_zero, List.getElem_cons_succ, List.setIfInBounds_toArray, List.set_cons_zero, List.set_cons_succ]
    have hR := (HK.out wv (HWE.out.2.2.2.1.trans (BV.out.mono HWE.out.2.2.2.1.size))).2.1
    have r0 : wv.cell? ⟨H + 1, 0, none⟩ = some (.int .i64 0) := by simp [World.cell?, hR]
    have r1 : wv.cell? ⟨H + 1, 1, none⟩ = some (.int .i64 0) := by simp [World.cell?, hR]
    have r2 : wv.cell? ⟨H + 1, 2, none⟩ = some (.string ⟨#[]⟩) := by simp [World.cell?, hR]
    have r3 : wv.cell? ⟨H + 1, 3, none⟩ = some (.slice none 0 0) := by simp [World.cell?, hR]
    have r4 : wv.cell? ⟨H + 1, 4, none⟩ = some (.slice none 0 0) := by simp [World.cell?, hR]
    have f0 : ∀ j, wv.frozen? ⟨H + 1, j, none⟩ = false := fun j => by simp [World.frozen?, hR]
    have z0 := f0 0
    have z1 := f0 1
    have z2 := f0 2
    have z3 := f0 3
    have z4 := f0 4
    have HRR := Lib.hid hR
    clear hR f0
    have hS2 : (((((wv.setCell ⟨H + 1, 0, none⟩ (.int .i64 4)).setCell ⟨H + 1, 1, none⟩ (.int .i64 0)).setCell ⟨H + 1, 2, none⟩ (.string ⟨#[]⟩)).setCell ⟨H + 1, 3, none⟩ (.slice none 0 0)).setCell ⟨H + 1, 4, none⟩ (.slice va es'.length vc)).cell? ⟨da, 0, none⟩ = some (.int .i64 4) ∧ (((((wv.setCell ⟨H + 1, 0, none⟩ (.int .i64 4)).setCell ⟨H + 1, 1, none⟩ (.int .i64 0)).setCell ⟨H + 1, 2, none⟩ (.string ⟨#[]⟩)).setCell ⟨H + 1, 3, none⟩ (.slice none 0 0)).setCell ⟨H + 1, 4, none⟩ (.slice va es'.length vc)).cell? ⟨da, 1, none⟩ = some (.int .i64 0) ∧ (((((wv.setCell ⟨H + 1, 0, none⟩ (.int .i64 4)).setCell ⟨H + 1, 1, none⟩ (.int .i64 0)).setCell ⟨H + 1, 2, none⟩ (.string ⟨#[]⟩)).setCell ⟨H + 1, 3, none⟩ (.slice none 0 0)).setCell ⟨H + 1, 4, none⟩ (.slice va es'.length vc)).cell? ⟨da, 2, none⟩ = some (.string ⟨#[]⟩) ∧ (((((wv.setCell ⟨H + 1, 0, none⟩ (.int .i64 4)).setCell ⟨H + 1, 1, none⟩ (.int .i64 0)).setCell ⟨H + 1, 2, none⟩ (.string ⟨#[]⟩)).setCell ⟨H + 1, 3, none⟩ (.slice none 0 0)).setCell ⟨H + 1, 4, none⟩ (.slice va es'.length vc)).cell? ⟨da, 3, none⟩ = some (.slice none 0 0) ∧ (((((wv.setCell ⟨H + 1, 0, none⟩ (.int .i64 4)).setCell ⟨H + 1, 1, none⟩ (.int .i64 0)).setCell ⟨H + 1, 2, none⟩ (.string ⟨#[]⟩)).setCell ⟨H + 1, 3, none⟩ (.slice none 0 0)).setCell ⟨H + 1, 4, none⟩ (.slice va es'.length vc)).cell? ⟨da, 4, none⟩ = some (.slice va es'.length vc) := by
      have e8 := (besides5 wv (H + 1) (.int .i64 4) (.int .i64 0) (.string ⟨#[]⟩) (.slice none 0 0) (.slice va es'.length vc)).block da (Nat.lt_of_lt_of_le (Array.getElem?_eq_some_iff.1 HWE.out.2.2.2.2.1).1 BV.out.size) (by have h6 := HWE.out.2.2.2.2.2; have h5 := HWZ.out.2.2.1; omega)
      refine ⟨(World.cell?_of_block (w := wv) (a := ⟨da, 0, none⟩) e8).trans hS.1, (World.cell?_of_block (w := wv) (a := ⟨da, 1, none⟩) e8).trans hS.2.1, (World.cell?_of_block (w := wv) (a := ⟨da, 2, none⟩) e8).trans hS.2.2.1, (World.cell?_of_block (w := wv) (a := ⟨da, 3, none⟩) e8).trans hS.2.2.2.1, (World.cell?_of_block (w := wv) (a := ⟨da, 4, none⟩) e8).trans hS.2.2.2.2⟩
    refine wpAnyH_ready (rs := [4]) (by kernel_rfl) (by simp) ?_
    refine AllReadyH.cons (o := _) rfl (fun K hK => ?_) AllReadyH.nil
    go_simp
    refine hK.out _ _ hS2 (fun hHeld => ?_)
    clear hK K
    refine wpAnyH_ready (rs := [5]) (by kernel_rfl) (by simp) ?_
    refine AllReadyH.cons (o := _) rfl (fun K hK => ?_) AllReadyH.nil
    go_simp
    refine hK.out _ _ hS2 (fun hHeld => ?_)
    clear hK K
    refine wpAnyH_done (by kernel_rfl) ?_ _
    clear hHeld
    clear hS hS2 r0 r1 r2 r3 r4 z0 z1 z2 z3 z4
    go_wp2
    refine bodyPost_ret (v := .tuple #[.agg #[.int .i64 4, .int .i64 0, .string ⟨#[]⟩, .slice none 0 0, .slice va es'.length vc], .bool (kk == 0)]) (results_cell2 Try.results46 _ _ (H + 1) _ rfl (ow.set (ow.set (ow.set (ow.set (ow.set HRR.out 0 _) 1 _) 2 _) 3 _) 4 _) rfl) rfl ⟨.slice ya ns.length yc, .slice va es'.length vc, es', by rw [hkk], ?_, ?_, ?_⟩
    · rw [show ownP ns sz qu ag (.slice ya ns.length yc) = ownQ ns sz qu ag ab (.slice ya ns.length yc) by unfold ownP; rw [HAB.out]]
      exact HWE.out.1
    · exact ⟨⟨none, 0, rfl, .inl rfl⟩, rd_besides (besides5 _ _ _ _ _ _ _) (rd_keep BV.out (fun _ h => h) HWE.out.2.1)⟩
    · rw [HS.out]
      exact below5 (HB0.out.trans ((HWE.out.2.2.2.1.trans (BV.out.mono HWE.out.2.2.2.1.size)).mono (by have h5 := HWZ.out.2.2.1; omega))) (by omega) _ _ _ _ _
end Go.Proofs.Ytldkecjfjcnkfaa
