import Derived.Test.YtkagcefboahgkaaSy
import Derived.ArgAppend
import Derived.Laws.OwnMore
namespace Go.Proofs.Ytkagcefboahgkaa
open Go.RowKit
/-- what an append of one element keeps: every list of the same kind that ends no later -/
def Keeps (e : TypeId) (sv : Value) (n : Nat) (w w' : World) : Prop := ∀ (B0 : Nat) (v0 : Value) (m : Nat) (xs0 : List Value), w.ownsRow B0 e 1 v0 m xs0 → (v0.ownBlock = sv.ownBlock → m ≤ n) → w'.ownsRow B0 e 1 v0 m xs0
theorem append_both {ops : Array Oper} {rest : List Oper} {o : Oper} {a : Act} {Q : Exit → Act → World → Prop} {w : World} {B : Nat} {e t : TypeId} {sv : Value} {n : Nat} {xs : List Value} (i0 : TypeInfo) (z : Value) (bytes : Nat) (hgd : o.guard = none) (s x : Operand)
    (ho : o.op = .call { callee := .builtin .append, args := #[s, x], argTypes := #[t, t] }) (h1 : Try.prog.underlying t = some (.slice e)) (h2 : Try.prog.info? e = some i0) (h3 : i0.zero = some z) (h4 : i0.size = 1) (h5 : i0.bytes = bytes) (h6 : z.cells.size = 1)
    (hs : a.eval s = sv) (hown : w.ownsRow B e 1 sv n xs) (b : Nat) (u : Value) (hx : a.eval x = .slice (some ⟨b, 0, none⟩) 1 1) (hc : w.cell? ⟨b, 0, none⟩ = some u) (h1c : u.oneCell' = true) (hB : B ≤ w.heap.size) (b1 : n + 1 ≤ maxLen) (b2 : (n + 1) * bytes ≤ 140737488355328)
    (h : ∀ v' w', w'.ownsRow B e 1 v' (n + 1) (xs ++ [u]) → Keeps e sv n w w' → w.grownBy w' sv.ownBlock → (v'.ownBlock = sv.ownBlock ∨ ∀ g, v'.ownBlock = some g → w.heap.size ≤ g) → wpList Try.prog ops Q rest (a.put o.dst v') w') : wpList Try.prog ops Q (o :: rest) a w := by
  have hcu : ∀ j u', ([u] : List Value)[j]? = some u' → w.cell? ((⟨b, 0, none⟩ : Addr).add j) = some u' := fun j u' hj => by
    match j, hj with
    | 0, hj => simp at hj; subst hj; simpa [Addr.add] using hc
  have hall : ∀ w', w.grownBy w' none → Keeps e sv n w w' := fun w' r2 B0 v0 m xs0 ho' _ => by
    refine ⟨ho'.1, ?_⟩
    rcases ho'.2 with hh | ⟨g, cap, cur, e1, e2, e3, e4⟩
    · exact .inl hh
    · exact .inr ⟨g, cap, cur, e1, e2, (r2.block g (Array.getElem?_eq_some_iff.1 e3).1 (by simp)).trans e3, e4⟩
  rcases hown.2 with ⟨rfl, rfl⟩ | ⟨g, cap, cur, rfl, hBg, hg, hnc, hcm, hsz, htk⟩
  · obtain rfl : xs = [] := List.eq_nil_of_length_eq_zero (by simpa using hown.1)
    refine wpList_append_grows w hgd s x t ho e i0 z 1 bytes h1 h2 h3 h4 h5 h6 (by omega) none 0 0 [] hs (fun _ => ⟨rfl, rfl⟩) rfl (fun b hb => by cases hb) ⟨b, 0, none⟩ 1 1 [u] hx rfl hcu (by simpa using h1c) (by omega) b1 b2 (fun v' w' r1 r2 => ?_)
    exact h v' w' (ownsRow_base r1 hB) (hall w' r2) r2 (.inr (fun g hg => (World.ownsRow.lt r1 g hg).1))
  · have hsz' : cur.size = cap := by simpa using hsz
    refine wpList_append_arg w hgd s x t ho e i0 z 1 bytes h1 h2 h3 h4 h5 h6 (by omega) g 0 n cap xs hs hown.1 (fun j u' hj => ?_) ⟨b, 0, none⟩ 1 1 [u] hx rfl hcu (by simpa using h1c) (fun hr j hj => ?_) b1 b2 (fun hr => ?_) (fun hr v' w' r1 r2 => ?_)
    · have hj' : j < n := by
        have := (List.getElem?_eq_some_iff.1 hj).1
        rw [hown.1] at this; simpa using this
      rw [Nat.zero_add]
      rw [← htk, List.getElem?_take_of_lt (by omega), Array.getElem?_toList] at hj
      simpa [World.cell?, hg] using hj
    · simp at hj
      subst hj
      have : n < cur.size := by omega
      exact ⟨by simp [World.cell?, hg, this], by simp [World.frozen?, hg]⟩
    · have es : w.setCells g (0 + n * 1) [u] = w.setCell ⟨g, n, none⟩ u := by simp [World.setCells]
      rw [es]
      clear es
      have hh : (w.setCell ⟨g, n, none⟩ u).heap[g]? = some (.cells (cur.setIfInBounds n u) e (0, 0)) := heap_setCell_same w g n cur e u hg
      refine h _ _ ⟨by rw [List.length_append, hown.1]; simp, .inr ⟨g, cap, cur.setIfInBounds n u, rfl, hBg, hh, hr, hcm, by simpa using hsz, ?_⟩⟩ (fun B0 v0 m xs0 ho' hm => ?_) ⟨rfl, rfl, rfl, by simp, fun k hk hne => setCell_other (fun e => hne (by rw [e]; rfl))⟩ (.inl rfl)
      · rw [Array.toList_setIfInBounds, Nat.mul_one, List.take_succ_eq_append_getElem (by simp; omega), List.take_set_of_le (Nat.le_refl _)]
        rw [Nat.mul_one] at htk
        rw [htk]
        simp
      · refine ⟨ho'.1, ?_⟩
        rcases ho'.2 with hh' | ⟨g', cap', cur', e1, e2, e3, e4, e5, e6, e7⟩
        · exact .inl hh'
        · by_cases eg : g' = g
          · subst eg
            have hm' := hm (by rw [e1]; rfl)
            rw [hg] at e3
            simp only [Option.some.injEq, Obj.cells.injEq] at e3
            obtain ⟨rfl, _⟩ := e3
            refine .inr ⟨g', cap', cur.setIfInBounds n u, e1, e2, hh, e4, e5, by simpa using e6, ?_⟩
            rw [Array.toList_setIfInBounds, List.take_set_of_le (by omega)]
            exact e7
          · exact .inr ⟨g', cap', cur', e1, e2, (setCell_other eg).trans e3, e4, e5, e6, e7⟩
    · exact h v' w' (ownsRow_base r1 hB) (hall w' r2) ⟨r2.os, r2.tape, r2.output, r2.size, fun k hk _ => r2.block k hk (by simp)⟩ (.inr (fun g hg => (World.ownsRow.lt r1 g hg).1))
/-- the marks behind a list of bytes -/
def mks (c i : Nat) : List UInt8 := (List.range i).map fun j => UInt8.ofNat (c + j)
theorem mks_succ (c i : Nat) : mks c (i + 1) = mks c i ++ [UInt8.ofNat (c + i)] := by simp [mks, List.range_succ]
theorem mks_len (c i : Nat) : (mks c i).length = i := by simp [mks]
/-- a list gone on with: the new one, and the old one as it was -/
structure GI (w : World) (B : Nat) (e : TypeId) (v0 : Value) (n : Nat) (xs ys : List Value) (v : Value) (wr : World) : Prop where
  new : wr.ownsRow B e 1 v (n + ys.length) (xs ++ ys)
  old : wr.ownsRow B e 1 v0 n xs
  fr : Fr (fun k => v0.ownBlock ≠ some k) w wr
  at_ : v.ownBlock = v0.ownBlock ∨ ∀ g, v.ownBlock = some g → w.heap.size ≤ g
theorem GI.start {w : World} {B : Nat} {e : TypeId} {v0 : Value} {n : Nat} {xs : List Value} (h : w.ownsRow B e 1 v0 n xs) : GI w B e v0 n xs [] v0 w := ⟨by simpa using h, h, Fr.refl _ _, .inl rfl⟩
theorem GI.keep {w : World} {B : Nat} {e : TypeId} {v0 v : Value} {n : Nat} {xs ys : List Value} {wr w' : World} (h : GI w B e v0 n xs ys v wr) (hb : Below wr.heap.size wr w') : GI w B e v0 n xs ys v w' :=
  ⟨ownsRow_fr (S := fun _ => True) h.new (Fr.of_below hb) (fun _ _ => trivial), ownsRow_fr (S := fun _ => True) h.old (Fr.of_below hb) (fun _ _ => trivial), h.fr.trans (Fr.of_below hb) (fun _ _ x => x), h.at_⟩
theorem GI.next {w : World} {B : Nat} {e : TypeId} {v0 v v' : Value} {n : Nat} {xs ys : List Value} {wr w' : World} {u : Value} (h : GI w B e v0 n xs ys v wr) (h1 : w'.ownsRow B e 1 v' (n + ys.length + 1) (xs ++ ys ++ [u])) (h2 : Keeps e v (n + ys.length) wr w') (h3 : wr.grownBy w' v.ownBlock) (h4 : v'.ownBlock = v.ownBlock ∨ ∀ g, v'.ownBlock = some g → wr.heap.size ≤ g) : GI w B e v0 n xs (ys ++ [u]) v' w' := by
  refine ⟨by rw [List.length_append, ← List.append_assoc]; exact h1, h2 B v0 n xs h.old (fun _ => by omega), ?_, ?_⟩
  · refine ⟨h3.os.trans h.fr.os, h3.tape.trans h.fr.tape, h3.output.trans h.fr.output, Nat.le_trans h.fr.size h3.size, fun k hk hs => (h3.block k (Nat.lt_of_lt_of_le hk h.fr.size) (fun e => ?_)).trans (h.fr.block k hk hs)⟩
    rcases h.at_ with e1 | e1
    · exact hs (by rw [← e1]; exact e.symm)
    · have := e1 k e.symm; omega
  · rcases h4 with e | e
    · rw [e]; exact h.at_
    · right
      intro g hg
      have := e g hg
      have := h.fr.size
      omega
def GrE (w : World) (B : Nat) (e : TypeId) (v0 : Value) (n : Nat) (xs ys : List Value) (en : Ending) (w' : World) : Prop := ∃ v, en = .returned v ∧ GI w B e v0 n xs ys v w'
theorem cellH {w : World} {g j : Nat} {cs : Array Value} {t : TypeId} (h : w.heap[g]? = some (.cells cs t (0, 0))) : w.cell? ⟨g, j, none⟩ = cs[j]? := by simp [World.cell?, h]
theorem cellNew (w : World) (v : Value) (t : TypeId) : (w.alloc (.cells #[v] t)).cell? ⟨w.heap.size, 0, none⟩ = some v := by
  rw [cellH (heapNew w (.cells #[v] t))]
  rfl
theorem byte_ofNat (k : Nat) (h : k < 256) : Value.int .u8 ((UInt8.ofNat k).toNat : Int) = .int .u8 (k : Int) := by
  rw [UInt8.toNat_ofNat', Nat.mod_eq_of_lt h]
set_option maxHeartbeats 1000000 in
theorem grown (v0 : Value) (l : List UInt8) (c B : Nat) (w : World) (ho : OW B w v0 l) (hB : B ≤ w.heap.size) (hl : l.length ≤ 1048576) (hc : c ≤ 121) :
    Calls Try.prog 17 #[v0, .int .u8 (c : Int)] w (GrE w B 5 v0 l.length (Lib.byteCells l) (Lib.byteCells (mks c 70))) := by
  obtain ⟨a, ca, rfl⟩ := ho.form
  obtain ⟨i0, hi, hz0, hz1, hz2⟩ := info_parts info5
  have HI : Hid (GI w B 5 (.slice a l.length ca) l.length (Lib.byteCells l) (Lib.byteCells (mks c 0)) (.slice a l.length ca) w) := GI.start ho
  have HF : Hid (Try.prog.info? 5 = some i0 ∧ i0.zero = some (.int .u8 0) ∧ i0.size = 1 ∧ i0.bytes = 1) := ⟨hi, hz0, hz1, hz2⟩
  clear ho hi hz0 hz1 hz2
  generalize hln : l.length = n at *
  go_enter Try.func17, Try.ntmps17
  go_wp2
  go_loopw [0, 5] (fun u t wr => ∃ i : Nat, i ≤ 70 ∧ t = .int .i64 i ∧ Hid (GI w B 5 (.slice a n ca) n (Lib.byteCells l) (Lib.byteCells (mks c i)) u wr)) (fun _ t _ => 70 - (intOf t).toNat)
  case atStart => exact ⟨0, by omega, rfl, HI⟩
  case round =>
    obtain ⟨i, hi, rfl, HK⟩ := hrel
    obtain ⟨ua, uc, hu⟩ := ownsRow_form HK.out.new
    subst hu
    by_cases hlt : i < 70
    · have bA : Below wr.heap.size wr (wr.alloc (.cells #[.int .u8 ((c : Int) + i)] 5)) := (Below.refl _ _).alloc (Nat.le_refl _) _
      have HA : Hid (GI w B 5 (.slice a n ca) n (Lib.byteCells l) (Lib.byteCells (mks c i)) (.slice ua (n + (Lib.byteCells (mks c i)).length) uc) (wr.alloc (.cells #[.int .u8 ((c : Int) + i)] 5))) := HK.out.keep bA
      have HL : Hid ((Lib.byteCells (mks c i)).length = i ∧ B ≤ (wr.alloc (.cells #[.int .u8 ((c : Int) + i)] 5)).heap.size ∧ n ≤ 1048576 ∧ c + i < 256) := ⟨by rw [bcl_len, mks_len], Nat.le_trans hB (Nat.le_trans HK.out.fr.size bA.size), hl, by omega⟩
      have hcn := cellNew wr (.int .u8 ((c : Int) + i)) 5
      clear HK bA
      generalize hyl : (Lib.byteCells (mks c i)).length = yl at *
      have hyl2 : yl = i := HL.out.1
      go_wp2_with (first | (at_builtin; refine append_both i0 _ 1 rfl _ _ rfl Try.underlying22 HF.out.1 HF.out.2.1 HF.out.2.2.1 HF.out.2.2.2 rfl rfl (by have := HA.out.new; rw [hyl] at this; exact this) wr.heap.size _ rfl hcn rfl HL.out.2.1 (by unfold maxLen; omega) (by omega) ?_; intro v' w' q1 q2 q3 q4))
      have HZ : Hid (GI w B 5 (.slice a n ca) n (Lib.byteCells l) (Lib.byteCells (mks c (i + 1))) v' w') := by
        have := HA.out.next (u := .int .u8 ((c : Int) + i)) (by rw [hyl]; exact q1) (by rw [hyl]; exact q2) q3 q4
        rw [mks_succ, bcl_append]
        have e : Lib.byteCells [UInt8.ofNat (c + i)] = [.int .u8 ((c : Int) + i)] := by
          show [Value.int .u8 _] = _
          rw [byte_ofNat (c + i) HL.out.2.2.2]
          simp
        rw [e]
        exact this
      clear q1 q2 q3 q4 HA
      refine ⟨⟨i + 1, by omega, by go_num, HZ⟩, by simp [intOf]; omega⟩
    · obtain rfl : i = 70 := by omega
      have HE : Hid (GI w B 5 (.slice a n ca) n (Lib.byteCells l) (Lib.byteCells (mks c 70)) (.slice ua (n + (Lib.byteCells (mks c 70)).length) uc) wr) := HK
      clear HK
      go_wp2
      go_ret
      exact ⟨_, rfl, HE.out⟩
/-- the numbers behind a list of numbers -/
def mkI (c : Int) (i : Nat) : List Value := (List.range i).map fun j : Nat => Value.int .i64 (c - (j : Int))
theorem mkI_succ (c : Int) (i : Nat) : mkI c (i + 1) = mkI c i ++ [.int .i64 (c - (i : Int))] := by simp [mkI, List.range_succ]
theorem mkI_len (c : Int) (i : Nat) : (mkI c i).length = i := by simp [mkI]
set_option maxHeartbeats 1000000 in
theorem longer (v0 : Value) (n : Nat) (xs : List Value) (c : Int) (B : Nat) (w : World) (ho : w.ownsRow B 3 1 v0 n xs) (hB : B ≤ w.heap.size) (hl : n ≤ 1048576) (hc : -1000 ≤ c ∧ c ≤ 0) :
    Calls Try.prog 18 #[v0, .int .i64 c] w (GrE w B 3 v0 n xs (mkI c 70)) := by
  obtain ⟨a, ca, rfl⟩ := ownsRow_form ho
  obtain ⟨i0, hi, hz0, hz1, hz2⟩ := info_parts info3
  have HI : Hid (GI w B 3 (.slice a n ca) n xs (mkI c 0) (.slice a n ca) w) := GI.start ho
  have HF : Hid (Try.prog.info? 3 = some i0 ∧ i0.zero = some (.int .i64 0) ∧ i0.size = 1 ∧ i0.bytes = 8) := ⟨hi, hz0, hz1, hz2⟩
  clear ho hi hz0 hz1 hz2
  go_enter Try.func18, Try.ntmps18
  go_wp2
  go_loopw [0, 5] (fun u t wr => ∃ i : Nat, i ≤ 70 ∧ t = .int .i64 i ∧ Hid (GI w B 3 (.slice a n ca) n xs (mkI c i) u wr)) (fun _ t _ => 70 - (intOf t).toNat)
  case atStart => exact ⟨0, by omega, rfl, HI⟩
  case round =>
    obtain ⟨i, hi, rfl, HK⟩ := hrel
    obtain ⟨ua, uc, hu⟩ := ownsRow_form HK.out.new
    subst hu
    by_cases hlt : i < 70
    · have bA : Below wr.heap.size wr (wr.alloc (.cells #[.int .i64 (c - (i : Int))] 3)) := (Below.refl _ _).alloc (Nat.le_refl _) _
      have HA : Hid (GI w B 3 (.slice a n ca) n xs (mkI c i) (.slice ua (n + (mkI c i).length) uc) (wr.alloc (.cells #[.int .i64 (c - (i : Int))] 3))) := HK.out.keep bA
      have HL : Hid ((mkI c i).length = i ∧ B ≤ (wr.alloc (.cells #[.int .i64 (c - (i : Int))] 3)).heap.size ∧ n ≤ 1048576) := ⟨mkI_len _ _, Nat.le_trans hB (Nat.le_trans HK.out.fr.size bA.size), hl⟩
      have hcn := cellNew wr (.int .i64 (c - (i : Int))) 3
      clear HK bA
      generalize hyl : (mkI c i).length = yl at *
      have hyl2 : yl = i := HL.out.1
      go_wp2_with (first | (at_builtin; refine append_both i0 _ 8 rfl _ _ rfl Try.underlying38 HF.out.1 HF.out.2.1 HF.out.2.2.1 HF.out.2.2.2 rfl rfl (by have := HA.out.new; rw [hyl] at this; exact this) wr.heap.size _ rfl hcn rfl HL.out.2.1 (by unfold maxLen; omega) (by omega) ?_; intro v' w' q1 q2 q3 q4))
      have HZ : Hid (GI w B 3 (.slice a n ca) n xs (mkI c (i + 1)) v' w') := by
        have := HA.out.next (u := .int .i64 (c - (i : Int))) (by rw [hyl]; exact q1) (by rw [hyl]; exact q2) q3 q4
        rw [mkI_succ]
        exact this
      clear q1 q2 q3 q4 HA
      refine ⟨⟨i + 1, by omega, by go_num, HZ⟩, by simp [intOf]; omega⟩
    · obtain rfl : i = 70 := by omega
      have HE : Hid (GI w B 3 (.slice a n ca) n xs (mkI c 70) (.slice ua (n + (mkI c 70).length) uc) wr) := HK
      clear HK
      go_wp2
      go_ret
      exact ⟨_, rfl, HE.out⟩
theorem write_nil (w : World) (s : Int) (a : Option Addr) (n c : Nat) : Calls Try.prog 13 #[.pointer none, .int .i64 s, .slice a n c] w fun e w' => e = .returned (.int .i64 1) ∧ w' = w := by
  go_enter Try.func13, Try.ntmps13
  go_wp2
  go_ret
  exact ⟨rfl, rfl⟩
theorem sync_nil (w : World) : Calls Try.prog 30 #[.pointer none] w fun e w' => e = .returned (.int .i64 1) ∧ w' = w := by
  go_enter Try.func30, Try.ntmps30
  go_wp2
  go_ret
  exact ⟨rfl, rfl⟩
theorem crash_nil (w : World) (v : Value) (i j : Int) : Calls Try.prog 31 #[.pointer none, v, .int .i64 i, .int .i64 j] w fun e w' => e = .returned (.int .i64 1) ∧ w' = w := by
  go_enter Try.func31, Try.ntmps31
  go_wp2
  go_ret
  exact ⟨rfl, rfl⟩
theorem fuse_nil (w : World) (i : Int) : Calls Try.prog 32 #[.pointer none, .int .i64 i] w fun e w' => e = .returned (.int .i64 1) ∧ w' = w := by
  go_enter Try.func32, Try.ntmps32
  go_wp2
  go_ret
  exact ⟨rfl, rfl⟩
theorem image_nil (w : World) : Calls Try.prog 10 #[.pointer none] w fun e w' => e = .returned (.slice none 0 0) ∧ w' = w := by
  go_enter Try.func10, Try.ntmps10
  go_wp2
  go_ret
  exact ⟨rfl, rfl⟩
theorem durable_nil (w : World) : Calls Try.prog 15 #[.pointer none] w fun e w' => e = .returned (.slice none 0 0) ∧ w' = w := by
  go_enter Try.func15, Try.ntmps15
  go_wp2
  go_ret
  exact ⟨rfl, rfl⟩
theorem copy_nil (w : World) : Calls Try.prog 25 #[.pointer none] w fun e w' => e = .returned (.pointer none) ∧ w' = w := by
  go_enter Try.func25, Try.ntmps25
  go_wp2
  go_ret
  exact ⟨rfl, rfl⟩
set_option maxHeartbeats 2000000 in
theorem nilSame (w : World) (i : Int) (a : Option Addr) (n c : Nat) : Calls Try.prog 6 #[.int .i64 i, .slice a n c, .slice none 0 0] w fun e w' => e = .returned (.bool true) ∧ Below w.heap.size w w' := by
  go_enter Try.func6, Try.ntmps6
  go_wp2_with fail
  refine (read_nil i w).mono ?_
  rintro e w1 ⟨rfl, rfl⟩
  go_wp2_with fail
  refine (write_nil w1 i a n c).mono ?_
  rintro e w1 ⟨rfl, rfl⟩
  go_wp2_with fail
  refine (sync_nil w1).mono ?_
  rintro e w1 ⟨rfl, rfl⟩
  go_wp2_with fail
  refine (crash_nil w1 _ i i).mono ?_
  rintro e w1 ⟨rfl, rfl⟩
  go_wp2_with fail
  refine (fuse_nil w1 i).mono ?_
  rintro e w1 ⟨rfl, rfl⟩
  go_wp2_with fail
  refine (size_nil w1).mono ?_
  rintro e w1 ⟨rfl, rfl⟩
  go_wp2_with fail
  refine (pending_nil w1).mono ?_
  rintro e w1 ⟨rfl, rfl⟩
  go_wp2_with fail
  refine (image_nil w1).mono ?_
  rintro e w1 ⟨rfl, rfl⟩
  go_wp2_with fail
  refine (durable_nil w1).mono ?_
  rintro e w1 ⟨rfl, rfl⟩
  go_wp2_with fail
  refine (copy_nil w1).mono ?_
  rintro e w1 ⟨rfl, rfl⟩
  go_wp2_with fail
  go_ret
  exact ⟨rfl, Below.refl _ _⟩
end Go.Proofs.Ytkagcefboahgkaa
