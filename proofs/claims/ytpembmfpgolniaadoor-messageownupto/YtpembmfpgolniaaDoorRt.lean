import Derived.Test.YtpembmfpgolniaaDoorAh
namespace Go.Proofs.YtpembmfpgolniaaDoor
open Go.RowKit
end Go.Proofs.YtpembmfpgolniaaDoor
