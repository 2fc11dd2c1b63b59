import Derived.Test.YtnmeohacdbmplaaGreatDoorM08
namespace Go.Proofs.YtnmeohacdbmplaaGreatDoor
open Go.RowKit
/-- a message with what its lists hold -/
structure Mg where
  m : Mv
  D : List UInt8
  hb : List UInt8
/-- what its frame says -/
def Mg.fr (x : Mg) : List UInt8 := frm (encB x.m x.D x.hb)
/-- the slice v of messages reads as these -/
def RMS (w : World) (v : Value) (ms : List Mg) : Prop :=
  ∃ a c, v = .slice a ms.length c ∧ ms.length ≤ c ∧ (ms = [] ∨ ∃ g o, a = some ⟨g, o, none⟩ ∧ g < w.heap.size ∧ ∀ i x, ms[i]? = some x → w.rangeAt g (o + i * 40) x.m.ls) ∧ ∀ x ∈ ms, MM w x.m x.D x.hb
theorem RMS.keep {w w' : World} {v : Value} {ms : List Mg} (h : RMS w v ms) (hb : Below w.heap.size w w') : RMS w' v ms := by
  obtain ⟨a, c, rfl, hle, h, hm⟩ := h
  refine ⟨a, c, rfl, hle, ?_, fun x hx => (hm x hx).keep hb⟩
  rcases h with h | ⟨g, o, h1, h2, h3⟩
  · exact .inl h
  · exact .inr ⟨g, o, h1, Nat.lt_of_lt_of_le h2 hb.size, fun i x hx j u hu => (World.cell?_of_block (w := w) (hb.block g h2)).trans (h3 i x hx j u hu)⟩
/-- what is wrong with the first of these that can't be sent -/
def wirE : List Mg → Int
  | [] => 0
  | x :: ms => if valE x.m = 0 then wirE ms else valE x.m
/-- their frames, one behind the other -/
def wirB (ms : List Mg) : List UInt8 := (ms.map Mg.fr).flatten
theorem wirE_take (ms : List Mg) (n : Nat) (x : Mg) (hx : ms[n]? = some x) (h : wirE (ms.take n) = 0) (hv : valE x.m ≠ 0) : wirE ms = valE x.m := by
  induction ms generalizing n with
  | nil => simp at hx
  | cons y ms ih =>
    cases n with
    | zero => simp at hx; subst hx; unfold wirE; rw [if_neg hv]
    | succ n =>
      rw [List.take_succ_cons] at h
      unfold wirE at h ⊢
      split at h
      · rename_i h0
        rw [if_pos h0]
        exact ih n (by simpa using hx) h
      · rename_i h0
        exact absurd h h0
theorem wirE_snoc (ms : List Mg) (x : Mg) (h : wirE ms = 0) (hv : valE x.m = 0) : wirE (ms ++ [x]) = 0 := by
  induction ms with
  | nil => show wirE [x] = 0; unfold wirE; rw [if_pos hv]; rfl
  | cons y ms ih =>
    rw [List.cons_append]
    unfold wirE at h ⊢
    split at h
    · rename_i h0
      rw [if_pos h0]
      exact ih h
    · rename_i h0
      exact absurd h h0
theorem wirB_snoc (ms : List Mg) (x : Mg) : wirB (ms ++ [x]) = wirB ms ++ x.fr := by
  unfold wirB; simp
theorem enc_le (m : Mv) (ok : m.ok) (D hb : List UInt8) (hd : sln m.d = D.length) (hh : hb.length = sln m.h * 32) : (encB m D hb).length ≤ 32768 := by
  by_cases h : valE m = 0
  · exact (back_way m ok D hb h hd hh).2.2.2.2
  · unfold encB; rw [if_neg h]; simp
theorem MM.enc_le {w : World} {m : Mv} {D hb : List UInt8} (h : MM w m D hb) : (encB m D hb).length ≤ 32768 := Go.Proofs.YtnmeohacdbmplaaGreatDoor.enc_le m h.ok D hb h.sd h.sh
theorem fr_le {w : World} {x : Mg} (h : MM w x.m x.D x.hb) : x.fr.length ≤ 32772 := by
  have := h.enc_le
  unfold Mg.fr frm
  rw [List.length_append, be4_len]
  omega
theorem wirB_le {w : World} (ms : List Mg) (h : ∀ x ∈ ms, MM w x.m x.D x.hb) : (wirB ms).length ≤ ms.length * 32772 := by
  induction ms with
  | nil => simp [wirB]
  | cons x ms ih =>
    have h1 := fr_le (h x (by simp))
    have h2 := ih (fun y hy => h y (by simp [hy]))
    have e : wirB (x :: ms) = x.fr ++ wirB ms := rfl
    rw [e, List.length_append, List.length_cons]
    omega
/-- what framed answers -/
def frB (m : Mv) (D hb : List UInt8) : List UInt8 := if valE m = 0 then frm (encB m D hb) else []
set_option maxHeartbeats 1000000 in
set_option maxRecDepth 100000 in
theorem framedT (w : World) (m : Mv) (D hb : List UInt8) (hm : MM w m D hb) (hk : KT w) :
    Calls Tryz.prog 67 #[.agg m.cs] w fun e w' => ∃ v, e = .returned (.tuple #[v, .int .i64 (valE m)]) ∧ OW w.heap.size w' v (frB m D hb) ∧ Below w.heap.size w w' := by
  have b0 : Below w.heap.size w (w.alloc (.cells m.cs 47)) := (Below.refl _ _).alloc (Nat.le_refl _) _
  have hc : (w.alloc (.cells m.cs 47)).heap[w.heap.size]? = some (.cells m.cs 47 (0, 0)) := heapNew w _
  have HA : Hid (MM (w.alloc (.cells m.cs 47)) m D hb ∧ KT (w.alloc (.cells m.cs 47)) ∧ Below w.heap.size w (w.alloc (.cells m.cs 47))) := ⟨hm.keep b0, hk.below b0 hk.pos, b0⟩
  have him := info_msg hm.ok
  have HL : Hid ((encB m D hb).length ≤ 32768) := hm.enc_le
  clear b0 hk hm
  go_enter Tryz.func67, Tryz.ntmps67
  go_wp2_with (first | (refine wpList_load_row rfl 47 _ rfl w.heap.size rfl 47 m.cs (0, 0) _ hc Tryz.underlying47 rfl him ?_))
  generalize w.alloc (.cells m.cs 47) = w0 at *
  refine (encodeT w0 m D hb HA.out.1 HA.out.2.1).mono ?_
  rintro e w1 ⟨v, rfl, o1, b1⟩
  obtain ⟨va, vn, vc, rfl⟩ := o1.form3
  have HB : Hid (RB w1 (.slice va vn vc) (encB m D hb) ∧ Below w.heap.size w w1) := ⟨o1.rb, HA.out.2.2.trans (b1.mono HA.out.2.2.size)⟩
  clear o1 b1 HA hc
  by_cases h0 : valE m = 0
  · rw [h0]
    have HV : Hid (valE m = 0) := h0
    clear h0
    go_wp2_with fail
    refine (wrap_yes _ (encB m D hb) HL.out w1 HB.out.1).mono ?_
    rintro e w2 ⟨v2, rfl, o2, b2⟩
    have HE : Hid (OW w.heap.size w2 v2 (frm (encB m D hb)) ∧ Below w.heap.size w w2) := ⟨o2.mono HB.out.2.size, HB.out.2.trans (b2.mono HB.out.2.size)⟩
    clear o2 b2
    go_wp2
    go_ret2
    exact ⟨_, by rw [HV.out]; rfl, by unfold frB; rw [if_pos HV.out]; exact HE.out.1, HE.out.2⟩
  · obtain ⟨ve, hve⟩ : ∃ ve, valE m = ve := ⟨_, rfl⟩
    have HV : Hid (valE m ≠ 0 ∧ valE m = ve) := ⟨h0, hve⟩
    rw [hve] at h0 ⊢
    clear hve
    go_wp2
    go_ret2
    exact ⟨_, by rw [HV.out.2]; rfl, by unfold frB; rw [if_neg HV.out.1]; exact World.ownsRow_nil _ _ _ _, HB.out.2⟩
theorem RMS.at {w : World} {a : Option Addr} {n c : Nat} {ms : List Mg} (h : RMS w (.slice a n c) ms) (i : Nat) (x : Mg) (hx : ms[i]? = some x) : ∃ g o, a = some ⟨g, o, none⟩ ∧ g < w.heap.size ∧ w.rangeAt g (o + i * 40) x.m.ls ∧ MM w x.m x.D x.hb := by
  obtain ⟨a', c', e, _, h, hm⟩ := h
  simp only [Value.slice.injEq] at e
  obtain ⟨rfl, -, -⟩ := e
  rcases h with rfl | ⟨g, o, rfl, h2, h3⟩
  · simp at hx
  · exact ⟨g, o, rfl, h2, h3 i x hx, hm x (List.mem_of_getElem? hx)⟩
theorem RMS.mem {w : World} {v : Value} {ms : List Mg} (h : RMS w v ms) (x : Mg) (hx : x ∈ ms) : MM w x.m x.D x.hb := by
  obtain ⟨a, c, _, _, _, hm⟩ := h
  exact hm x hx
/-- what Wire answers -/
def WIR (w w' : World) (e : Ending) (ms : List Mg) : Prop := ∃ v, e = .returned (.tuple #[v, .int .i64 (wirE ms)]) ∧ OW w.heap.size w' v (if wirE ms = 0 then wirB ms else []) ∧ Below w.heap.size w w'
set_option maxHeartbeats 2000000 in
set_option maxRecDepth 100000 in
theorem wireT (w : World) (v : Value) (ms : List Mg) (hr : RMS w v ms) (hk : KT w) (hl : ms.length ≤ 2147483647) :
    Calls Tryz.prog 44 #[v] w fun e w' => WIR w w' e ms := by
  obtain ⟨a, c, rfl, _⟩ := id hr
  have HR : Hid (RMS w (.slice a ms.length c) ms ∧ KT w) := ⟨hr, hk⟩
  clear hr hk
  go_enter Tryz.func44, Tryz.ntmps44
  go_wp2
  generalize hln : ms.length = len at *
  have HN : Hid (ms.length = len) := hln
  clear hln
  go_loopw [4, 11] (fun u t wr => ∃ n : Nat, n ≤ len ∧ t = .int .i64 n ∧ Hid (OW w.heap.size wr u (wirB (ms.take n)) ∧ Below w.heap.size w wr ∧ wirE (ms.take n) = 0)) (fun _ t _ => len - (intOf t).toNat)
  case atStart => exact ⟨0, by omega, rfl, World.ownsRow_nil _ _ _ _, Below.refl _ _, rfl⟩
  case round =>
    obtain ⟨n, hn, rfl, hI⟩ := hrel
    by_cases hlt : n < len
    · have hl2 : n < ms.length := by rw [HN.out]; exact hlt
      have hx : ms[n]? = some ms[n] := List.getElem?_eq_getElem hl2
      generalize ms[n] = x at hx
      obtain ⟨g, o, rfl, hg, hrg, hmx⟩ := HR.out.1.at n x hx
      have hrg' : wr.rangeAt g (o + n * 40) x.m.ls := fun j y hj => (hI.out.2.1.cell (p := ⟨g, o + n * 40 + j, none⟩) hg).trans (hrg j y hj)
      have hb1 := hI.out.2.1
      have hmx' : MM wr x.m x.D x.hb := hmx.keep hb1
      have hsz40 : x.m.ls.length = 40 := by have := hmx.ok.size; unfold Mv.cs at this; simpa using this
      have hiL : (Tryz.prog.info? 47).map (·.size) = some x.m.ls.length := by rw [hsz40]; kernel_rfl
      have him := info_msg hmx.ok
      have hone := hmx.ok.one
      have hz2 := heapNew wr (.cells z40 47)
      have hs1 : z40.size = x.m.cs.size := hmx.ok.size.symm
      have hc : ((wr.alloc (.cells z40 47)).setRow wr.heap.size x.m.cs).heap[wr.heap.size]? = some (.cells x.m.cs 47 (0, 0)) := heapSetRow _ _ _ _ _ hz2
      have bX : Below wr.heap.size wr ((wr.alloc (.cells z40 47)).setRow wr.heap.size x.m.cs) := belowSetRow ((Below.refl _ _).alloc (Nat.le_refl _) _) (Nat.le_refl _) _
      have HX : Hid (MM ((wr.alloc (.cells z40 47)).setRow wr.heap.size x.m.cs) x.m x.D x.hb ∧ KT ((wr.alloc (.cells z40 47)).setRow wr.heap.size x.m.cs) ∧ Below w.heap.size w ((wr.alloc (.cells z40 47)).setRow wr.heap.size x.m.cs) ∧ OW w.heap.size ((wr.alloc (.cells z40 47)).setRow wr.heap.size x.m.cs) u4 (wirB (ms.take n)) ∧ wirE (ms.take n) = 0 ∧ ms.take (n + 1) = ms.take n ++ [x] ∧ (wirB (ms.take n)).length + x.fr.length ≤ 140737488351232) := by
        refine ⟨hmx'.keep bX, HR.out.2.below (hb1.trans (bX.mono hb1.size)) HR.out.2.pos, hb1.trans (bX.mono hb1.size), hI.out.1.grow bX, hI.out.2.2, by rw [List.take_add_one, hx]; rfl, ?_⟩
        have h1 := wirB_le (w := w) (ms.take n) (fun y hy => HR.out.1.mem y (List.mem_of_mem_take hy))
        have h2 := fr_le hmx
        have h3 : (ms.take n).length ≤ 2147483647 := by rw [List.length_take]; omega
        have h4 := Nat.mul_le_mul_right 32772 h3
        omega
      have HXX : Hid (ms[n]? = some x) := hx
      obtain ⟨ua, un, uc, rfl⟩ := hI.out.1.form3
      clear hI hrg hmx hmx' bX hb1 hx
      go_wp2_with (first | (refine wpList_load_mid rfl 47 _ rfl g (o + n * 40) rfl _ _ hrg' Tryz.underlying47 rfl hiL ?_) | (refine wpList_store_row rfl 47 _ _ rfl wr.heap.size x.m.cs rfl rfl 47 z40 hz2 him hs1 hone ?_) | (refine wpList_load_row rfl 47 _ rfl wr.heap.size rfl 47 x.m.cs (0, 0) _ hc Tryz.underlying47 rfl him ?_))
      clear hrg' hc hz2
      generalize (wr.alloc (.cells z40 47)).setRow wr.heap.size x.m.cs = X at *
      refine (framedT X x.m x.D x.hb HX.out.1 HX.out.2.1).mono ?_
      rintro e w2 ⟨v2, rfl, o2, b2⟩
      obtain ⟨va, vn, vc, rfl⟩ := o2.form3
      by_cases h0 : valE x.m = 0
      · have HY : Hid (OW w.heap.size w2 (.slice ua un uc) (wirB (ms.take n)) ∧ RB w2 (.slice va vn vc) x.fr ∧ Below w.heap.size w w2 ∧ valE x.m = 0) := by
          refine ⟨HX.out.2.2.2.1.grow b2, ?_, HX.out.2.2.1.trans (b2.mono HX.out.2.2.1.size), h0⟩
          have h9 := o2.rb
          unfold frB at h9
          rw [if_pos h0] at h9
          exact h9
        rw [h0]
        clear h0 o2 b2
        go_wp2_with (first | (at_builtin; refine append_bytes rfl _ _ rfl rfl HY.out.1 rfl HY.out.2.1 HY.out.2.2.1.size HX.out.2.2.2.2.2.2 ?_; intro v' w3 o3 b3))
        refine ⟨⟨n + 1, by omega, by go_num, ?_, HY.out.2.2.1.trans b3, ?_⟩, by simp [intOf]; omega⟩
        · rw [HX.out.2.2.2.2.2.1, wirB_snoc]; exact o3
        · rw [HX.out.2.2.2.2.2.1]; exact wirE_snoc _ _ HX.out.2.2.2.2.1 HY.out.2.2.2
      · obtain ⟨ve, hve⟩ : ∃ ve, valE x.m = ve := ⟨_, rfl⟩
        have HV : Hid (wirE ms = ve ∧ ve ≠ 0 ∧ Below w.heap.size w w2) := by
          refine ⟨by rw [← hve]; exact wirE_take ms n x HXX.out HX.out.2.2.2.2.1 h0, by rw [← hve]; exact h0, HX.out.2.2.1.trans (b2.mono HX.out.2.2.1.size)⟩
        rw [hve] at h0 ⊢
        clear hve o2 b2
        go_wp2
        go_ret2
        exact ⟨_, by rw [HV.out.1]; rfl, by rw [HV.out.1, if_neg HV.out.2.1]; exact World.ownsRow_nil _ _ _ _, HV.out.2.2⟩
    · have HE : Hid (OW w.heap.size wr u4 (wirB ms) ∧ Below w.heap.size w wr ∧ wirE ms = 0) := by
        have h1 := hI.out
        rw [List.take_of_length_le (by have := HN.out; omega)] at h1
        exact h1
      clear hI
      go_wp2
      go_ret2
      exact ⟨_, by rw [HE.out.2.2]; rfl, by rw [HE.out.2.2, if_pos rfl]; exact HE.out.1, HE.out.2.1⟩
end Go.Proofs.YtnmeohacdbmplaaGreatDoor
namespace Go.Proofs.YtnmeohacdbmplaaGreatDoor
open Go.RowKit
/-- what was read, as a message in memory -/
theorem MM.of_dec {w w' : World} {l : List UInt8} {d h : Value} (hd : OW w.heap.size w' d (decS l).D) (hh : OH w.heap.size w' h (decS l).hb) : MM w' { (decS l).m with d := d, h := h } (decS l).D (decS l).hb := by
  have hl : (decS l).m.r.length = 32 ∧ (decS l).D.length ≤ 32768 ∧ (decS l).hb.length ≤ 32768 := by
    unfold decS
    by_cases hE : decE l = 0
    · rw [if_pos hE]
      unfold decE at hE
      split at hE
      · omega
      · rename_i h1
        cases hr : rowFor (kindB l) with
        | none => rw [hr] at hE; simp at hE
        | some r =>
          rw [hr] at hE
          simp only at hE ⊢
          split at hE
          · rename_i hfit
            have hnds := fit_NDS r (rowFor_mem hr).1 l hfit
            refine ⟨tks_r _ _ (zr_len 32) hnds, ?_⟩
            have key : ∀ (cs : List Nat) (s : Ds), s.l.length ≤ 32768 → s.D.length ≤ 32768 → s.hb.length ≤ 32768 → (Ds.tks cs s).D.length ≤ 32768 ∧ (Ds.tks cs s).hb.length ≤ 32768 := by
              intro cs
              induction cs with
              | nil => intro s _ h2 h3; exact ⟨h2, h3⟩
              | cons c cs ih =>
                intro s h1 h2 h3
                refine ih (Ds.tk c s) (Nat.le_trans (rst_le c s.l) h1) ?_ ?_
                · show (dD c s.l s.D).length ≤ _
                  unfold dD; split <;> assumption
                · show (dH c s.l s.hb).length ≤ _
                  unfold dH; split <;> assumption
            exact key r.cs ⟨zmk r.k, [], [], l⟩ (by simp only; omega) (by simp) (by simp)
          · omega
    · rw [if_neg hE]
      exact ⟨zr_len 32, by simp, by simp⟩
  exact ⟨⟨hl.1, hd.form3, hh.form⟩, hd.rb, hh.rh, by omega, by omega⟩
end Go.Proofs.YtnmeohacdbmplaaGreatDoor
namespace Go.Proofs.YtnmeohacdbmplaaGreatDoor
open Go.RowKit
/-- the message of awake -/
def am : Mv := { zmk 6 with i := 258, b := 64, l := 16384 }
abbrev am40 : Array Value := #[Value.int .i64 6, Value.int .i64 258, Value.int .i64 64, Value.int .i64 16384, Value.slice none 0 0, Value.int .u8 0, Value.int .u8 0, Value.int .u8 0, Value.int .u8 0, Value.int .u8 0, Value.int .u8 0, Value.int .u8 0, Value.int .u8 0, Value.int .u8 0, Value.int .u8 0, Value.int .u8 0, Value.int .u8 0, Value.int .u8 0, Value.int .u8 0, Value.int .u8 0, Value.int .u8 0, Value.int .u8 0, Value.int .u8 0, Value.int .u8 0, Value.int .u8 0, Value.int .u8 0, Value.int .u8 0, Value.int .u8 0, Value.int .u8 0, Value.int .u8 0, Value.int .u8 0, Value.int .u8 0, Value.int .u8 0, Value.int .u8 0, Value.int .u8 0, Value.int .u8 0, Value.int .u8 0, Value.int .i64 0, Value.int .i64 0, Value.slice none 0 0]
abbrev ab13 : List UInt8 := [6, 0, 0, 1, 2, 0, 0, 0, 64, 0, 0, 64, 0]
theorem am_ok : am.ok := ⟨zr_len 32, ⟨_, _, _, rfl⟩, ⟨_, _, _, rfl⟩⟩
theorem am_val : valE am = 0 := by decide
theorem am_enc : encB am [] [] = ab13 := by decide
theorem am_built : Tryz.prog.built 47 [(0, .int .i64 6), (1, .int .i64 258), (2, .int .i64 64), (3, .int .i64 16384)] = some am40 := by kernel_rfl
theorem am_cs : am40 = am.cs := rfl
theorem am_info : (Tryz.prog.info? 47).map (·.size) = some am40.size := by kernel_rfl
theorem am_one : am40.all (·.oneCell') = true := am_ok.one
theorem MM.nil {w : World} {m : Mv} (ok : m.ok) (hd : m.d = .slice none 0 0) (hh : m.h = .slice none 0 0) : MM w m [] [] := ⟨ok, by rw [hd]; exact ⟨none, 0, rfl, Nat.le_refl _, .inl rfl⟩, by rw [hh]; exact ⟨none, 0, 0, rfl, rfl, Nat.le_refl _, .inl rfl⟩, by simp, by simp⟩
/-- the two messages of awake as cells -/
def two80 : Array Value := am40 ++ zk40 (-1)
theorem info_msgP : (Tryz.prog.info? 47).map (fun i => (i.zero, i.size, i.bytes)) = some (some (.agg z40), 40, 128) := by kernel_rfl
theorem fill_two : Instr.fill (fun i => some (i * 40, 40)) ((Array.range (2 * 40)).map ((Value.agg z40).cells[· % (Value.agg z40).cells.size]!)) [(0, .agg am40), (1, .agg (zk40 (-1)))] = some two80 := by kernel_rfl
theorem build_two {ops : Array Oper} {rest : List Oper} {o : Oper} {a : Act} {w : World} {Q : Exit → Act → World → Prop} (hg : o.guard = none) (x y : Operand) (ho : o.op = .buildSlice 68 2 #[(0, x), (1, y)]) (hx : a.eval x = .agg am40) (hy : a.eval y = .agg (zk40 (-1)))
    (h : wpList Tryz.prog ops Q rest (a.put o.dst (.slice (some ⟨w.heap.size, 0, none⟩) 2 2)) (w.alloc (.cells two80 47))) : wpList Tryz.prog ops Q (o :: rest) a w := by
  obtain ⟨i0, hi, hz0, hz1, hz2⟩ := info_parts info_msgP
  refine wpList_buildSlice hg 68 47 2 _ ho two80 i0 _ Tryz.underlying68 hi hz0 (by rw [hz1]; decide) (by rw [hz1]; decide) ?_ h
  rw [hz1]
  have e : (#[(0, x), (1, y)].map fun (i, y) => (i, a.eval y)).toList = [(0, .agg am40), (1, .agg (zk40 (-1)))] := by simp only [List.map_toArray, List.map_cons, List.map_nil, hx, hy]
  rw [e]
  exact fill_two
def twoM : List Mg := [⟨am, [], []⟩, ⟨zmk (-1), [], []⟩]
set_option maxRecDepth 100000 in
theorem two80_eq : two80 = (am.ls ++ (zmk (-1)).ls).toArray := rfl
set_option maxRecDepth 100000 in
theorem rms_two {w : World} {g : Nat} (h : w.heap[g]? = some (.cells two80 47 (0, 0))) : RMS w (.slice (some ⟨g, 0, none⟩) 2 2) twoM := by
  have hr : w.rangeAt g 0 (am.ls ++ (zmk (-1)).ls) := rangeOf (two80_eq ▸ h)
  refine ⟨_, 2, rfl, Nat.le_refl _, .inr ⟨g, 0, rfl, (Array.getElem?_eq_some_iff.1 h).1, fun i x hx => ?_⟩, fun x hx => ?_⟩
  · match i, hx with
    | 0, hx =>
      simp [twoM] at hx
      subst hx
      intro j v hj
      have hlt := (List.getElem?_eq_some_iff.1 hj).1
      exact hr j v (by rw [List.getElem?_append_left hlt]; exact hj)
    | 1, hx =>
      simp [twoM] at hx
      subst hx
      intro j v hj
      have h9 := hr (40 + j) v (by
        rw [List.getElem?_append_right (by show (40 : Nat) ≤ _; omega)]
        show (zmk (-1)).ls[40 + j - 40]? = _
        rw [Nat.add_sub_cancel_left]; exact hj)
      rw [← Nat.add_assoc] at h9
      exact h9
    | n + 2, hx => simp [twoM] at hx
  · simp [twoM] at hx
    rcases hx with rfl | rfl
    · exact MM.nil am_ok rfl rfl
    · exact MM.nil (zmk_ok _) rfl rfl
theorem two_wirE : wirE twoM = 0 := by decide
theorem two_len : (wirB twoM).length = 21 := by decide
end Go.Proofs.YtnmeohacdbmplaaGreatDoor
namespace Go.Proofs.YtnmeohacdbmplaaGreatDoor
open Go.RowKit
set_option maxHeartbeats 1000000 in
theorem numLT (w : World) (k : Int) : Calls Tryz.prog 11 #[.int .i64 k] w fun e w' => e = .returned (.int .i64 k) ∧ w = w' := by
  go_enter Tryz.func11, Tryz.ntmps11
  go_wp2
  go_ret
  exact ⟨rfl, rfl⟩
end Go.Proofs.YtnmeohacdbmplaaGreatDoor
