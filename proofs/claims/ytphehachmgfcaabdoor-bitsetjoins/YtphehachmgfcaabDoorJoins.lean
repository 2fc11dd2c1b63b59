import Derived.Test.YtphehachmgfcaabDoorJoinE
import Derived.Test.YtphehachmgfcaabDoorJoinF
import Derived.Test.YtphehachmgfcaabDoorJoinG
import Derived.Test.YtphehachmgfcaabDoorJoinH
namespace Go.Proofs.YtphehachmgfcaabDoor
open Go.RowKit
/-- what stands throughout the law -/
def JS (l r : List UInt8) (w w' : World) (one two a b : Value) : Prop := RB w' one l ∧ RB w' two r ∧ RB w' a l ∧ RB w' b r ∧ MT w' ∧ Below w.heap.size w w'
theorem JS.keep {l r : List UInt8} {w w' w'' : World} {one two a b : Value} (h : JS l r w w' one two a b) (hb : Below w'.heap.size w' w'') : JS l r w w'' one two a b :=
  ⟨h.1.keep hb, h.2.1.keep hb, h.2.2.1.keep hb, h.2.2.2.1.keep hb, h.2.2.2.2.1.keep hb, h.2.2.2.2.2.trans (hb.mono h.2.2.2.2.2.size)⟩
set_option maxHeartbeats 4000000 in
theorem joins8 (n : Int) (h0 : -9223372036854775808 ≤ n) (h1 : n ≤ 9223372036854775807) (v u : Value) (l r : List UInt8) (w : World) (hr : RB w v l) (hs : RB w u r) (hm : MT w) (hl : l.length ≤ 140737488351232) (hl2 : r.length ≤ 140737488351232) :
    Calls Tryd.prog 8 #[.int .i64 n, v, u] w fun e w' => e = .returned (.bool true) ∧ Below w.heap.size w w' := by
  have HR : Hid (RB w v l ∧ RB w u r ∧ MT w) := ⟨hr, hs, hm⟩
  clear hm
  obtain ⟨a, c, rfl, _⟩ := hr
  obtain ⟨a2, c2, rfl, _⟩ := hs
  go_enter Tryd.func8, Tryd.ntmps8
  go_wp2_with fail
  refine (copied9 HR.out.1 hl).mono ?_
  rintro e w1 ⟨v1, rfl, ho1, hb1⟩
  obtain ⟨b1, d1, rfl⟩ := ho1.form
  go_wp2_with fail
  refine (copied9 (HR.out.2.1.keep hb1) hl2).mono ?_
  rintro e w2 ⟨v2, rfl, ho2, hb2⟩
  obtain ⟨b2, d2, rfl⟩ := ho2.form
  have hb12 : Below w.heap.size w w2 := hb1.trans (hb2.mono hb1.size)
  have S : Hid (JS l r w w2 (.slice b1 l.length d1) (.slice b2 r.length d2) (.slice a l.length c) (.slice a2 r.length c2)) := ⟨ho1.rb.keep hb2, ho2.rb, HR.out.1.keep hb12, HR.out.2.1.keep hb12, HR.out.2.2.keep hb12, hb12⟩
  clear ho1 ho2 hb1 hb2 hb12 HR
  go_wp2_with (go_at_call 27; refine (wrap27 n h0 h1 _ _ l r _ S.out.1 S.out.2.1 S.out.2.2.2.2.1 hl hl2).mono ?_; rintro e w3 ⟨vx, ox, rfl, hox, hjx, hbx⟩; obtain ⟨ax, cx, rfl⟩ := hox.form)
  have S2 := S.out.keep hbx
  have T : Hid (JS l r w w3 (.slice b1 l.length d1) (.slice b2 r.length d2) (.slice a l.length c) (.slice a2 r.length c2) ∧ RB w3 (.slice ax ox.length cx) ox ∧ JR n l r fA ox) := ⟨S2, hox.rb, hjx⟩
  clear S S2 hox hjx hbx
  go_wp2_with (go_at_call 33; refine (rwrap33 n h0 h1 _ _ l r _ T.out.1.2.2.1 T.out.1.2.2.2.1 hl hl2).mono ?_; rintro e w4 ⟨vy, oy, rfl, hoy, hjy, hby⟩; obtain rfl := JR.unique T.out.2.2 hjy; obtain ⟨ay, cy, rfl⟩ := hoy.form)
  have hlx : ox.length ≤ 140737488351232 := hjy.len
  have S2 := T.out.1.keep hby
  have S3 : Hid (JS l r w w4 (.slice b1 l.length d1) (.slice b2 r.length d2) (.slice a l.length c) (.slice a2 r.length c2) ∧ RB w4 (.slice ax ox.length cx) ox ∧ RB w4 (.slice ay ox.length cy) ox) := ⟨S2, T.out.2.1.keep hby, hoy.rb⟩
  clear T S2 hoy hjy hby
  refine (same12 _ _ ox _ hlx S3.out.2.1 S3.out.2.2).mono ?_
  rintro e w5 ⟨rfl, nq, rfl⟩
  have S : Hid (JS l r w (w4.drewN nq) (.slice b1 l.length d1) (.slice b2 r.length d2) (.slice a l.length c) (.slice a2 r.length c2)) := S3.out.1.keep (belowDrew _ _)
  clear S3 hlx
  generalize w4.drewN nq = w5 at *
  go_wp2_with (go_at_call 28; refine (wrap28 n h0 h1 _ _ l r _ S.out.1 S.out.2.1 S.out.2.2.2.2.1 hl hl2).mono ?_; rintro e w6 ⟨vx, ox, rfl, hox, hjx, hbx⟩; obtain ⟨ax, cx, rfl⟩ := hox.form)
  have S2 := S.out.keep hbx
  have T : Hid (JS l r w w6 (.slice b1 l.length d1) (.slice b2 r.length d2) (.slice a l.length c) (.slice a2 r.length c2) ∧ RB w6 (.slice ax ox.length cx) ox ∧ JR n l r fO ox) := ⟨S2, hox.rb, hjx⟩
  clear S S2 hox hjx hbx
  go_wp2_with (go_at_call 34; refine (rwrap34 n h0 h1 _ _ l r _ T.out.1.2.2.1 T.out.1.2.2.2.1 hl hl2).mono ?_; rintro e w7 ⟨vy, oy, rfl, hoy, hjy, hby⟩; obtain rfl := JR.unique T.out.2.2 hjy; obtain ⟨ay, cy, rfl⟩ := hoy.form)
  have hlx : ox.length ≤ 140737488351232 := hjy.len
  have S2 := T.out.1.keep hby
  have S3 : Hid (JS l r w w7 (.slice b1 l.length d1) (.slice b2 r.length d2) (.slice a l.length c) (.slice a2 r.length c2) ∧ RB w7 (.slice ax ox.length cx) ox ∧ RB w7 (.slice ay ox.length cy) ox) := ⟨S2, T.out.2.1.keep hby, hoy.rb⟩
  clear T S2 hoy hjy hby
  refine (same12 _ _ ox _ hlx S3.out.2.1 S3.out.2.2).mono ?_
  rintro e w8 ⟨rfl, nq, rfl⟩
  have S : Hid (JS l r w (w7.drewN nq) (.slice b1 l.length d1) (.slice b2 r.length d2) (.slice a l.length c) (.slice a2 r.length c2)) := S3.out.1.keep (belowDrew _ _)
  clear S3 hlx
  generalize w7.drewN nq = w8 at *
  go_wp2_with (go_at_call 29; refine (wrap29 n h0 h1 _ _ l r _ S.out.1 S.out.2.1 S.out.2.2.2.2.1 hl hl2).mono ?_; rintro e w9 ⟨vx, ox, rfl, hox, hjx, hbx⟩; obtain ⟨ax, cx, rfl⟩ := hox.form)
  have S2 := S.out.keep hbx
  have T : Hid (JS l r w w9 (.slice b1 l.length d1) (.slice b2 r.length d2) (.slice a l.length c) (.slice a2 r.length c2) ∧ RB w9 (.slice ax ox.length cx) ox ∧ JR n l r fM ox) := ⟨S2, hox.rb, hjx⟩
  clear S S2 hox hjx hbx
  go_wp2_with (go_at_call 35; refine (rwrap35 n h0 h1 _ _ l r _ T.out.1.2.2.1 T.out.1.2.2.2.1 hl hl2).mono ?_; rintro e w10 ⟨vy, oy, rfl, hoy, hjy, hby⟩; obtain rfl := JR.unique T.out.2.2 hjy; obtain ⟨ay, cy, rfl⟩ := hoy.form)
  have hlx : ox.length ≤ 140737488351232 := hjy.len
  have S2 := T.out.1.keep hby
  have S3 : Hid (JS l r w w10 (.slice b1 l.length d1) (.slice b2 r.length d2) (.slice a l.length c) (.slice a2 r.length c2) ∧ RB w10 (.slice ax ox.length cx) ox ∧ RB w10 (.slice ay ox.length cy) ox) := ⟨S2, T.out.2.1.keep hby, hoy.rb⟩
  clear T S2 hoy hjy hby
  refine (same12 _ _ ox _ hlx S3.out.2.1 S3.out.2.2).mono ?_
  rintro e w11 ⟨rfl, nq, rfl⟩
  have S : Hid (JS l r w (w10.drewN nq) (.slice b1 l.length d1) (.slice b2 r.length d2) (.slice a l.length c) (.slice a2 r.length c2)) := S3.out.1.keep (belowDrew _ _)
  clear S3 hlx
  generalize w10.drewN nq = w11 at *
  go_wp2_with (go_at_call 30; refine (not30 n h0 h1 _ r _ S.out.2.1 S.out.2.2.2.2.1 hl2).mono ?_; rintro e w12 ⟨vx, ox, rfl, hox, hjx, hbx⟩; obtain ⟨ax, cx, rfl⟩ := hox.form)
  have S2 := S.out.keep hbx
  have T : Hid (JS l r w w12 (.slice b1 l.length d1) (.slice b2 r.length d2) (.slice a l.length c) (.slice a2 r.length c2) ∧ RB w12 (.slice ax ox.length cx) ox ∧ NO n r ox) := ⟨S2, hox.rb, hjx⟩
  clear S S2 hox hjx hbx
  go_wp2_with (go_at_call 36; refine (not36 n h0 h1 _ r _ T.out.1.2.2.2.1 hl2).mono ?_; rintro e w13 ⟨vy, oy, rfl, hoy, hjy, hby⟩; obtain rfl := NO.unique T.out.2.2 hjy; obtain ⟨ay, cy, rfl⟩ := hoy.form)
  have hlx : ox.length ≤ 140737488351232 := hjy.len
  have S2 := T.out.1.keep hby
  have S3 : Hid (JS l r w w13 (.slice b1 l.length d1) (.slice b2 r.length d2) (.slice a l.length c) (.slice a2 r.length c2) ∧ RB w13 (.slice ax ox.length cx) ox ∧ RB w13 (.slice ay ox.length cy) ox) := ⟨S2, T.out.2.1.keep hby, hoy.rb⟩
  clear T S2 hoy hjy hby
  refine (same12 _ _ ox _ hlx S3.out.2.1 S3.out.2.2).mono ?_
  rintro e w14 ⟨rfl, nq, rfl⟩
  have S : Hid (JS l r w (w13.drewN nq) (.slice b1 l.length d1) (.slice b2 r.length d2) (.slice a l.length c) (.slice a2 r.length c2)) := S3.out.1.keep (belowDrew _ _)
  clear S3 hlx
  generalize w13.drewN nq = w14 at *
  go_wp2_with (go_at_call 32; refine (covers32 n h0 h1 _ _ l r _ S.out.1 S.out.2.1 S.out.2.2.2.2.1 hl hl2).mono ?_; rintro e w15 ⟨rfl, hbx⟩)
  have S2 : Hid (JS l r w w15 (.slice b1 l.length d1) (.slice b2 r.length d2) (.slice a l.length c) (.slice a2 r.length c2)) := S.out.keep hbx
  clear S hbx
  go_wp2_with (go_at_call 37; refine (covers37 n h0 h1 _ _ l r _ S2.out.2.2.1 S2.out.2.2.2.1 hl hl2).mono ?_; rintro e w16 ⟨rfl, hbx⟩)
  have S : Hid (JS l r w w16 (.slice b1 l.length d1) (.slice b2 r.length d2) (.slice a l.length c) (.slice a2 r.length c2)) := S2.out.keep hbx
  clear S2 hbx
  refine (same12 _ _ l _ hl S.out.1 S.out.2.2.1).mono ?_
  rintro e wz ⟨rfl, nq, rfl⟩
  go_wp2_with (go_at_call 15; refine (same12 _ _ r _ hl2 (S.out.2.1.keep (belowDrew _ _)) (S.out.2.2.2.1.keep (belowDrew _ _))).mono ?_; rintro e wy ⟨rfl, nr, rfl⟩)
  go_ret
  exact ⟨rfl, belowN S.out.2.2.2.2.2 _⟩
end Go.Proofs.YtphehachmgfcaabDoor
